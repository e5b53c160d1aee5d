/- The walk of LimiterNobody. -/
import Derived.Test.YtlccgplgbokgkaaLimLevel
import Derived.Test.YtlccgplgbokgkaaLimAlive
import Derived.Test.YtlccgplgbokgkaaArrAsk
namespace Go.Proofs.Ytlccgplgbokgkaa
namespace LimiterNobody
open Go.ChangeShapes Go.WideShapes Go.ChangeAt Go.RowKit Go.Maps
open Num Mem Words Chacha Aead Poly Adr Ops Quiet Stamp RowV Lim

theorem ask_range {X : World} {g : Nat} {t : TypeId} {s : Bool} {f : Nat → Nat} {z : Int} (h : Whole X g t (prefL s f z).toArray) : X.rangeAt g 0 (addrL s f) := pref_range h

structure NobW (w : World) (B : Nat) (Q : Array Value) (X : World) : Prop where
  q : Whole X B 36 Q
  z : Whole X (B + 1) 44 #[.map none, .int .i64 0]
  bel : Below w.heap.size w X
theorem NobW.below {w : World} {B : Nat} {Q : Array Value} {X Y : World} (h : NobW w B Q X) (hb : Below X.heap.size X Y) : NobW w B Q Y := ⟨Whole.below h.q hb h.q.lt, Whole.below h.z hb h.z.lt, below_trans h.bel hb⟩

set_option maxRecDepth 100000 in
set_option maxHeartbeats 4000000 in
theorem walk (s : Bool) (f : Nat → Nat) (t : Int) (w : World) (hf : ∀ i, f i < 256) (_ : (Lit.int .i64 t).wf = true) :
    Calls Try.prog 4 #[.agg (prefL s f t).toArray] w fun e w' => e = .returned (.bool true) ∧ Below w.heap.size w w' := by
  have CA := Lib.hid (fun X => allow_nil s f t X)
  have CZ := Lib.hid (fun B X h => allow_zero B 0 s f t X h)
  have CL := Lib.hid (fun X => level_nil s f hf t X)
  have CY := Lib.hid (fun B X h => level_zero B 0 s f hf t X h)
  have HR := Lib.hid (fun (X : World) (g : Nat) (h : Whole X g 36 (prefL s f t).toArray) => ask_range h)
  have HC := Lib.hid (fun (X : World) (g : Nat) (h : Whole X g 36 (prefL s f t).toArray) => (show X.cell? ⟨g, 17, none⟩ = some (.int .i64 t) from by rw [h.cell, List.getElem?_toArray, pref_bits]))
  have HA := Lib.hid (addrL_length s f)
  obtain ⟨Q, hQ⟩ : ∃ Q, (prefL s f t).toArray = Q := ⟨_, rfl⟩
  obtain ⟨A, hA⟩ : ∃ A, addrL s f = A := ⟨_, rfl⟩
  rw [hQ] at HR HC ⊢
  rw [hA] at HR CA CZ CL CY HA
  clear hQ hA hf
  go_enter Try.func4, Try.ntmps4
  go_upto_region 3 with fail
  refine cut_world (fun X => NobW w w.heap.size Q X) ⟨(Whole.new _ _ _).alloc _, whole_new _ _ (by simp), below_alloc (below_alloc (Below.refl _ _) _) _⟩ ?_
  intro X0 h0
  have H0 := Lib.hid h0
  clear h0
  generalize hB : w.heap.size = B at H0 ⊢
  have c0 := HC.out X0 B H0.out.q
  have R0 := Lib.hid (HR.out X0 B H0.out.q)
  go_wp2_with (refine wpList_load_mid rfl 25 (.tmp 15) rfl B 0 rfl A _ R0.out rfl rfl (by rw [HA.out]; kernel_rfl) ?_)
  refine (CA.out X0).mono ?_
  rintro e X1 ⟨rfl, hb⟩
  have H1 := Lib.hid (H0.out.below hb)
  clear hb c0 R0 H0
  have c1 := HC.out X1 B H1.out.q
  have R1 := Lib.hid (HR.out X1 B H1.out.q)
  go_wp2_with (refine wpList_load_mid rfl 25 (.tmp 23) rfl B 0 rfl A _ R1.out rfl rfl (by rw [HA.out]; kernel_rfl) ?_)
  refine (CZ.out (B + 1) X1 H1.out.z).mono ?_
  rintro e X2 ⟨rfl, hb⟩
  have H2 := Lib.hid (H1.out.below hb)
  clear hb c1 R1 H1
  have c2 := HC.out X2 B H2.out.q
  have R2 := Lib.hid (HR.out X2 B H2.out.q)
  go_wp2_with (refine wpList_load_mid rfl 25 (.tmp 32) rfl B 0 rfl A _ R2.out rfl rfl (by rw [HA.out]; kernel_rfl) ?_)
  refine (CL.out X2).mono ?_
  rintro e X3 ⟨rfl, hb⟩
  have H3 := Lib.hid (H2.out.below hb)
  clear hb c2 R2 H2
  have c3 := HC.out X3 B H3.out.q
  have R3 := Lib.hid (HR.out X3 B H3.out.q)
  go_wp2_with (refine wpList_load_mid rfl 25 (.tmp 40) rfl B 0 rfl A _ R3.out rfl rfl (by rw [HA.out]; kernel_rfl) ?_)
  refine (CY.out (B + 1) X3 H3.out.z).mono ?_
  rintro e X4 ⟨rfl, hb⟩
  have H4 := Lib.hid (H3.out.below hb)
  clear hb c3 R3 H3
  have HAL := Lib.hid (alive_ok X4)
  go_wp2_with fail
  refine HAL.out.mono ?_
  rintro e X5 ⟨rfl, hb⟩
  have H5 := Lib.hid (H4.out.below hb)
  clear hb H4
  have CN := Lib.hid (count_nil X5)
  have CM := Lib.hid (count_zero (B + 1) 0 X5 H5.out.z)
  clear HC HR CA CZ CL CY HAL
  go_wp2_with fail
  refine CN.out.mono ?_
  rintro e X6 ⟨rfl, rfl⟩
  go_wp2_with fail
  refine CM.out.mono ?_
  rintro e X6 ⟨rfl, rfl⟩
  go_wp2_with fail
  go_ret
  exact ⟨rfl, H5.out.bel⟩
end LimiterNobody
end Go.Proofs.Ytlccgplgbokgkaa
