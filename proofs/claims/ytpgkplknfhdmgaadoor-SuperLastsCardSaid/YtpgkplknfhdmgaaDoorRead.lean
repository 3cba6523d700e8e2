/- super: Read. -/
import Derived.Test.YtpgkplknfhdmgaaDoorDecode
import Derived.Test.YtpgkplknfhdmgaaDoorLine
namespace Go.Proofs.YtpgkplknfhdmgaaDoor
open Go.ChangeShapes Go.WideShapes Go.ChangeAt Go.RowKit Cr Bt Su Nv
set_option linter.unusedVariables false

/-- What a device begins with, by its first words and how many lines it has. -/
def readCode (x : Nat → Nat) (L : Nat) : Nat := if codeS x = 0 ∧ 512 * x 2 = 8 * L then 0 else 20
def ReadsAs (x : Nat → Nat) (L : Nat) (w : World) (e : Ending) (w' : World) : Prop :=
  e = .returned (.tuple #[.agg #[.int .i64 (if readCode x L = 0 then x 2 else 0 : Nat), .int .u64 (if readCode x L = 0 then x 3 else 0 : Nat)], .int .i64 (readCode x L : Nat)]) ∧ Below w.heap.size w w'

set_option maxHeartbeats 1000000 in
theorem read_any (w : World) {p : Nat} {f : Fp} {m : Mdl} (hd : Dev w p f m) (x : Nat → Nat) (hx : ∀ k : Nat, k < 8 → getNow m k = (x k : Int)) (hx64 : ∀ i, x i < 2 ^ 64) (hT : HasRests w) :
    Calls Tryd.prog 12 #[.pointer (some ⟨p, 0, none⟩)] w (ReadsAs x m.L w) := by
  have HD := Lib.hid hd
  have HX := Lib.hid hx
  have HX6 := Lib.hid hx64
  have HT := Lib.hid hT
  have hL := hd.hL
  clear hd hx hx64 hT
  go_enter Tryd.func12, Tryd.ntmps12
  go_wp2_with fail
  refine (line_any _ (HD.out.alloc _) x HX.out).mono ?_
  rintro e w1 ⟨rfl, k1⟩
  obtain ⟨b1, k1, s1⟩ := boxT_of1 k1
  have B1 := Lib.hid b1
  have K1 := Lib.hid k1
  have T1 := Lib.hid (HT.out.below k1 (Nat.le_refl _))
  clear b1 k1 HX
  go_wp2_with fail
  refine (decode_any x _ HX6.out T1.out).mono ?_
  rintro e w2 ⟨rfl, k2⟩
  have B2 : Hid (BoxT 27 w2 w.heap.size #[.int .i64 0, .int .u64 0]) := Lib.hid (B1.out.below k2 B1.out.lt)
  have K2 : Hid (Below w.heap.size w w2) := Lib.hid (K1.out.trans (k2.mono K1.out.size))
  have s2 := k2.size
  clear B1 K1 T1 k2 HT
  by_cases hc : codeS x = 0
  · have hc' := (code_zero x).1 hc
    have hb : blocksS x = x 2 := by unfold blocksS; rw [if_pos hc]
    have hi : idS x = x 3 := by unfold idS; rw [if_pos hc]
    rw [hc, hb, hi]
    have h2 := hc'.2
    have HC := Lib.hid hc
    clear hc hc' hb hi
    go_wp2_with fail
    have b3 := BoxT.new 27 w2 #[.int .i64 (x 2 : Nat), .int .u64 (x 3 : Nat)]
    have B3 : Hid (BoxT 27 (w2.alloc (.cells #[.int .i64 (x 2 : Nat), .int .u64 (x 3 : Nat)] 27)) w.heap.size #[.int .i64 0, .int .u64 0]) := Lib.hid (B2.out.alloc _)
    have K3 : Hid (Below w.heap.size w (w2.alloc (.cells #[.int .i64 (x 2 : Nat), .int .u64 (x 3 : Nat)] 27))) := Lib.hid (K2.out.alloc (by omega) _)
    have D3 : Hid (Dev (w2.alloc (.cells #[.int .i64 (x 2 : Nat), .int .u64 (x 3 : Nat)] 27)) p f m) := Lib.hid ((HD.out.keep (Keep.ofBelow (S := fun _ => False) K2.out) (fun _ _ _ h => h)).alloc _)
    generalize w2.heap.size = bs at b3 s2 ⊢
    generalize w2.alloc (.cells #[.int .i64 (x 2 : Nat), .int .u64 (x 3 : Nat)] 27) = V at b3 B3 K3 D3 ⊢
    refine (fills_any (x 2 : Nat) (x 3) _ D3.out (by omega) (by omega)).mono ?_
    rintro e w4 ⟨rfl, k4⟩
    have B5 := Lib.hid (b3.below k4 b3.lt)
    have B4 : Hid (BoxT 27 w4 w.heap.size #[.int .i64 0, .int .u64 0]) := Lib.hid (B3.out.below k4 B3.out.lt)
    have K4 : Hid (Below w.heap.size w w4) := Lib.hid (K3.out.trans (k4.mono K3.out.size))
    clear b3 k4 B3 K3 D3 B2 K2 HD
    by_cases hf : 512 * x 2 = 8 * m.L
    · have hr : readCode x m.L = 0 := by unfold readCode; rw [if_pos ⟨HC.out, hf⟩]
      have hdec : decide (512 * ((x 2 : Nat) : Int) = ((8 * m.L : Nat) : Int)) = true := decide_eq_true (by omega)
      rw [hdec]
      have HR := Lib.hid hr
      have c0 : w4.cell? ⟨bs, 0, none⟩ = some (.int .i64 (x 2 : Nat)) := B5.out.cell 0
      have c1 : w4.cell? ⟨bs, 1, none⟩ = some (.int .u64 (x 3 : Nat)) := B5.out.cell 1
      clear hf hr hdec
      go_wp2_with (first
        | (refine wpList_store_boxT rfl _ _ _ rfl (b := w.heap.size) (cells := #[.int .i64 (x 2 : Nat), .int .u64 (x 3 : Nat)]) rfl rfl B4.out info2 rfl (one2 _ _) ?_)
        | fail)
      exact bodyPost_ret (results_boxT2 rfl _ _ (w.heap.size) #[.int .i64 (x 2 : Nat), .int .u64 (x 3 : Nat)] (.int .i64 0) rfl (B4.out.row _) Tryd.underlying27 rfl info2 rfl) rfl ⟨by rw [HR.out]; rfl, below_setRow K4.out (Nat.le_refl _) _⟩
    · have hr : readCode x m.L = 20 := by unfold readCode; rw [if_neg (fun h => hf h.2)]
      have hdec : decide (512 * ((x 2 : Nat) : Int) = ((8 * m.L : Nat) : Int)) = false := decide_eq_false (by omega)
      rw [hdec]
      have HR := Lib.hid hr
      clear hf hr hdec
      go_wp2_with (first
        | (refine wpList_store_boxT rfl _ _ _ rfl (b := w.heap.size) (cells := #[.int .i64 0, .int .u64 0]) rfl rfl B4.out info2 rfl (one2 _ _) ?_)
        | fail)
      exact bodyPost_ret (results_boxT2 rfl _ _ (w.heap.size) #[.int .i64 0, .int .u64 0] (.int .i64 20) rfl (B4.out.row _) Tryd.underlying27 rfl info2 rfl) rfl ⟨by rw [HR.out]; rfl, below_setRow K4.out (Nat.le_refl _) _⟩
  · have hr : readCode x m.L = 20 := by unfold readCode; rw [if_neg (fun h => hc h.1)]
    have HR := Lib.hid hr
    have hb : blocksS x = 0 := by unfold blocksS; rw [if_neg hc]
    have hi : idS x = 0 := by unfold idS; rw [if_neg hc]
    rw [hb, hi]
    obtain ⟨cd, hcd⟩ : ∃ cd, codeS x = cd := ⟨_, rfl⟩
    have hne : ((cd : Int) == 0) = false := by rw [hcd] at hc; simp; exact hc
    have hne2 : ((cd : Int) != 0) = true := by rw [hcd] at hc; simp; exact hc
    rw [hcd]
    clear hc hr hb hi hcd
    go_wp2_with (first
      | (refine wpList_store_boxT rfl _ _ _ rfl (b := w.heap.size) (cells := #[.int .i64 0, .int .u64 0]) rfl rfl (B2.out.alloc _) info2 rfl (one2 _ _) ?_)
      | fail)
    exact bodyPost_ret (results_boxT2 rfl _ _ (w.heap.size) #[.int .i64 0, .int .u64 0] (.int .i64 20) rfl ((B2.out.alloc _).row _) Tryd.underlying27 rfl info2 rfl) rfl ⟨by rw [HR.out]; rfl, below_setRow (K2.out.alloc (by omega) _) (Nat.le_refl _) _⟩

end Go.Proofs.YtpgkplknfhdmgaaDoor
