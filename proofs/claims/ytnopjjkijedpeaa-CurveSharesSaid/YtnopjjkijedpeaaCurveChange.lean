/- The call change of package curve: two pairs change places, or stay. -/
import Derived.Test.YtnopjjkijedpeaaPair
import Derived.Test.YtnopjjkijedpeaaFieldTimes
import Derived.Laws.BitsAllLaws
import Derived.BigQuiet
import Derived.BigRegion
import Derived.RegionTactic
namespace Go.Proofs.Ytnopjjkijedpeaa
namespace Curve
open Go.ChangeShapes Go.WideShapes Go.ChangeAt Go.RowKit
open Num Mem Words Radix FieldN Chacha Quiet Go.Proofs.Ytnopjjkijedpeaa.Field Edwards

/-- all but two blocks is as it was -/
structure Kept (A C : Nat) (w w' : World) : Prop where
  os : w'.os = w.os
  tape : w'.tape = w.tape
  output : w'.output = w.output
  size : w.heap.size ≤ w'.heap.size
  block : ∀ k, k < w.heap.size → k ≠ A → k ≠ C → w'.heap[k]? = w.heap[k]?
theorem Kept.refl (A C : Nat) (w : World) : Kept A C w w := ⟨rfl, rfl, rfl, Nat.le_refl _, fun _ _ _ _ => rfl⟩
theorem Kept.drew {A C : Nat} {w w' : World} (h : Kept A C w w') : Kept A C w w'.drew := ⟨h.os, h.tape, h.output, h.size, h.block⟩
theorem Kept.set {A C : Nat} {w w' : World} (h : Kept A C w w') (b i : Nat) (hb : b = A ∨ b = C) (v : Value) : Kept A C w (w'.setCell ⟨b, i, none⟩ v) :=
  ⟨h.os, h.tape, h.output, by simpa [World.setCell] using h.size, fun k hk h1 h2 => (Below.heap_setCell w' ⟨b, i, none⟩ v k (fun e => by
    subst e
    rcases hb with hb | hb
    · exact h1 hb
    · exact h2 hb)).trans (h.block k hk h1 h2)⟩
theorem Kept.below {A C B : Nat} {w w' : World} (h : Kept A C w w') (hA : B ≤ A) (hC : B ≤ C) (hB : B ≤ w.heap.size) : Below B w w' :=
  ⟨h.os, h.tape, h.output, h.size, fun k hk => h.block k (by omega) (by omega) (by omega)⟩
theorem Kept.whole {A C g : Nat} {w w' : World} {t : TypeId} {cs : Array Value} (h : Kept A C w w') (hg : Whole w g t cs) (hA : g ≠ A) (hC : g ≠ C) : Whole w' g t cs :=
  (h.block g hg.lt hA hC).trans hg

/-- the places below k of both halves have changed -/
def mx (k : Nat) (N G : Nat → Nat) (j : Nat) : Nat := if j % 32 < k then N j else G j
theorem mx_next (k : Nat) (hk : k < 32) (N G : Nat → Nat) : byteCells (fun j => if j = 32 + k then N (32 + k) else if j = k then N k else mx k N G j) 64 = byteCells (mx (k + 1) N G) 64 := by
  refine byteCells_congr fun j hj => ?_
  unfold mx
  by_cases e : j = 32 + k
  · subst e
    rw [if_pos rfl, if_pos (by omega)]
  · rw [if_neg e]
    by_cases e2 : j = k
    · subst e2
      rw [if_pos rfl, if_pos (by omega)]
    · rw [if_neg e2]
      by_cases l : j % 32 < k
      · rw [if_pos l, if_pos (by omega)]
      · rw [if_neg l, if_neg (by omega)]
theorem mx_none (N G : Nat → Nat) : mx 0 N G = G := funext fun j => if_neg (by omega)
theorem mx_all (N G : Nat → Nat) : mx 32 N G = N := funext fun j => if_pos (by omega)
theorem mx_here (k : Nat) (hk : k < 32) (N G : Nat → Nat) : mx k N G k = G k ∧ mx k N G (32 + k) = G (32 + k) := by
  unfold mx
  constructor
  · exact if_neg (by omega)
  · exact if_neg (by omega)

theorem mask_of (d : Nat) (hd : d < 2) : ∃ m : Nat, -(d : Int) % 256 = (m : Int) ∧ m < 256 ∧ ∀ a b : Nat, a < 256 → b < 256 → a ^^^ ((a ^^^ b) &&& m) = (if d = 1 then b else a) ∧ b ^^^ ((a ^^^ b) &&& m) = if d = 1 then a else b := by
  rcases (show d = 0 ∨ d = 1 by omega) with rfl | rfl
  · refine ⟨0, by decide, by omega, fun a b _ _ => ?_⟩
    rw [Nat.and_zero, Nat.xor_zero, Nat.xor_zero]
    exact ⟨rfl, rfl⟩
  · refine ⟨255, by decide, by omega, fun a b ha hb => ?_⟩
    have hx : a ^^^ b < 2 ^ 8 := Nat.xor_lt_two_pow ha hb
    have e : (a ^^^ b) &&& 255 = a ^^^ b := by
      rw [show (255 : Nat) = 2 ^ 8 - 1 from rfl, Nat.and_two_pow_sub_one_eq_mod, Nat.mod_eq_of_lt hx]
    rw [e, if_pos rfl, if_pos rfl]
    constructor
    · rw [← Nat.xor_assoc, Nat.xor_self, Nat.zero_xor]
    · rw [Nat.xor_comm a b, ← Nat.xor_assoc, Nat.xor_self, Nat.zero_xor]
/-- what a mask makes of two bytes, in the program's words -/
theorem mask_run {m a b : Nat} (hm : m < 256) (ha : a < 256) (hb : b < 256) :
    bits .and .u8 (bits .xor .u8 (a : Int) (b : Int)) (m : Int) = (((a ^^^ b) &&& m : Nat) : Int) := by
  rw [u8_xor_nat a b ha hb, u8_and_nat _ m (Nat.xor_lt_two_pow (n := 8) ha hb) hm]
theorem mask_lt {m : Nat} (x : Nat) (hm : m < 256) : x &&& m < 256 := Nat.lt_of_le_of_lt Nat.and_le_right hm

set_option maxRecDepth 100000 in
set_option maxHeartbeats 4000000 in
theorem change_row (A C : Nat) (hAC : A ≠ C) (G G' : Nat → Nat) (hG : ∀ i, G i < 256) (hG' : ∀ i, G' i < 256) (d : Nat) (hd : d < 2) (w : World) (hA : Whole w A 78 (byteCells G 64).toArray) (hC : Whole w C 78 (byteCells G' 64).toArray) :
    Calls Try.prog 55 #[.pointer (some ⟨A, 0, none⟩), .pointer (some ⟨C, 0, none⟩), .int .u8 d] w fun e w' => e = .returned (.tuple #[]) ∧ Whole w' A 78 (byteCells (fun i => if d = 1 then G' i else G i) 64).toArray ∧ Whole w' C 78 (byteCells (fun i => if d = 1 then G i else G' i) 64).toArray ∧ Kept A C w w' := by
  obtain ⟨m, hm, hml, hmm⟩ := mask_of d hd
  obtain ⟨N, hN⟩ : ∃ N : Nat → Nat, N = fun i => if d = 1 then G' i else G i := ⟨_, rfl⟩
  obtain ⟨N', hN'⟩ : ∃ N : Nat → Nat, N = fun i => if d = 1 then G i else G' i := ⟨_, rfl⟩
  have HN := Lib.hid (show ∀ i, G i ^^^ ((G i ^^^ G' i) &&& m) = N i from fun i => by rw [(hmm _ _ (hG i) (hG' i)).1, hN])
  have HN' := Lib.hid (show ∀ i, G' i ^^^ ((G i ^^^ G' i) &&& m) = N' i from fun i => by rw [(hmm _ _ (hG i) (hG' i)).2, hN'])
  rw [← hN, ← hN']
  have HG := Lib.hid hG
  have HG' := Lib.hid hG'
  have HM := Lib.hid hm
  have HML := Lib.hid hml
  have H1 := Lib.hid hA
  have H2 := Lib.hid hC
  clear hm hml hmm hN hN' hG hG' hA hC
  go_enter Try.func55, Try.ntmps55
  go_upto_region 1 with fail
  rw [HM.out]
  go_wp2_with fail
  go_loopw [12] (fun i wr => ∃ k : Nat, k ≤ 32 ∧ i = .int .i64 k ∧ Whole wr A 78 (byteCells (mx k N G) 64).toArray ∧ Whole wr C 78 (byteCells (mx k N' G') 64).toArray ∧ Kept A C w wr) (fun i _ => 32 - (intOf i).toNat)
  case atStart => exact ⟨0, by omega, rfl, by rw [mx_none]; exact H1.out, by rw [mx_none]; exact H2.out, Kept.refl _ _ _⟩
  case round =>
    obtain ⟨k, hk, rfl, q1, q2, qk⟩ := hrel
    by_cases hlt : k < 32
    · have hki : (k : Int) < 32 := by omega
      have c1 := q1.bytes k (by omega)
      have c2 := q2.bytes k (by omega)
      have c3 := q1.bytes (32 + k) (by omega)
      have c4 := q2.bytes (32 + k) (by omega)
      rw [(mx_here k hlt N G).1] at c1
      rw [(mx_here k hlt N' G').1] at c2
      rw [(mx_here k hlt N G).2] at c3
      rw [(mx_here k hlt N' G').2] at c4
      rw [Nat.zero_add] at c1 c2 c3 c4
      have g1 := HG.out k
      have g2 := HG'.out k
      have g3 := HG.out (32 + k)
      have g4 := HG'.out (32 + k)
      have X1 := Lib.hid (mask_run HML.out g1 g2)
      have X2 := Lib.hid (mask_run HML.out g3 g4)
      have Y1 := Lib.hid (u8_xor_nat _ _ g1 (mask_lt (G k ^^^ G' k) HML.out))
      have Y2 := Lib.hid (u8_xor_nat _ _ g2 (mask_lt (G k ^^^ G' k) HML.out))
      have Y3 := Lib.hid (u8_xor_nat _ _ g3 (mask_lt (G (32 + k) ^^^ G' (32 + k)) HML.out))
      have Y4 := Lib.hid (u8_xor_nat _ _ g4 (mask_lt (G (32 + k) ^^^ G' (32 + k)) HML.out))
      rw [HN.out] at Y1 Y3
      rw [HN'.out] at Y2 Y4
      have M1 := Lib.hid (mx_next k hlt N G)
      have M2 := Lib.hid (mx_next k hlt N' G')
      have fA := q1.free
      have fC := q2.free
      have Q1 := Lib.hid q1
      have Q2 := Lib.hid q2
      have QK := Lib.hid qk
      clear g1 g2 g3 g4 q1 q2 qk
      generalize G k = u at c1 X1 Y1 Y2
      generalize G' k = u' at c2 X1 Y1 Y2
      generalize (u ^^^ u') &&& m = x at X1 Y1 Y2
      obtain ⟨v, hv⟩ : ∃ v, v = G (32 + k) := ⟨_, rfl⟩
      obtain ⟨v', hv'⟩ : ∃ v, v = G' (32 + k) := ⟨_, rfl⟩
      rw [← hv] at c3 X2 Y3 Y4
      rw [← hv'] at c4 X2 Y3 Y4
      have E3 := Lib.hid hv.symm
      have E4 := Lib.hid hv'.symm
      clear hv hv'
      generalize (v ^^^ v') &&& m = z at X2 Y3 Y4
      go_upto_region 5 with (first | go_quiet (fail) | fail)
      rw [X1.out, X2.out]
      have fa0 := fA k
      have fa1 := fA (32 + k)
      have fc0 := fC k
      have fc1 := fC (32 + k)
      have hne : ¬ A = C := hAC
      have hne' : ¬ C = A := fun e => hAC e.symm
      clear fA fC
      go_region
      rw [Y1.out, Y2.out]
      refine cut_post (F := Exit.then _ _) (fun X => Whole X A 78 (byteCells (fun j => if j = k then N k else mx k N G j) 64).toArray ∧ Whole X C 78 (byteCells (fun j => if j = k then N' k else mx k N' G' j) 64).toArray ∧ Kept A C w X) ⟨?_, ?_, ?_⟩ ?_
      · have h := Q1.out.put k (.int .u8 (N k : Nat))
        rw [byteCells_set] at h
        exact Whole.far h (by simp; exact hne) _
      · have h := (Whole.far Q2.out (p := ⟨A, k, none⟩) (by simp; exact hne') (.int .u8 (N k : Nat))).put k (.int .u8 (N' k : Nat))
        rw [byteCells_set] at h
        exact h
      · exact ((⟨QK.out.os, QK.out.tape, QK.out.output, QK.out.size, QK.out.block⟩ : Kept A C w (wr.drewN _)).set A k (.inl rfl) _).set C k (.inr rfl) _
      clear c1 c2 c3 c4 fa0 fa1 fc0 fc1
      rintro X ⟨q1, q2, qk⟩
      have c3 := q1.bytes (32 + k) (by omega)
      have c4 := q2.bytes (32 + k) (by omega)
      have k3 : ¬ 32 + k = k := by omega
      rw [if_neg k3, (mx_here k hlt N G).2] at c3
      rw [if_neg k3, (mx_here k hlt N' G').2] at c4
      rw [Nat.zero_add, E3.out] at c3
      rw [Nat.zero_add, E4.out] at c4
      have fa1 := q1.free (32 + k)
      have fc1 := q2.free (32 + k)
      replace Q1 := Lib.hid q1
      replace Q2 := Lib.hid q2
      replace QK := Lib.hid qk
      clear q1 q2 qk k3
      go_wp2_with fail
      go_region
      rw [Y3.out, Y4.out]
      refine cut_post (F := Exit.inBlock _ _) (fun X => Whole X A 78 (byteCells (mx (k + 1) N G) 64).toArray ∧ Whole X C 78 (byteCells (mx (k + 1) N' G') 64).toArray ∧ Kept A C w X) ⟨?_, ?_, ?_⟩ ?_
      · have h := Q1.out.put (32 + k) (.int .u8 (N (32 + k) : Nat))
        rw [byteCells_set, M1.out] at h
        exact Whole.far h (by simp; exact hne) _
      · have h := (Whole.far Q2.out (p := ⟨A, 32 + k, none⟩) (by simp; exact hne') (.int .u8 (N (32 + k) : Nat))).put (32 + k) (.int .u8 (N' (32 + k) : Nat))
        rw [byteCells_set, M2.out] at h
        exact h
      · exact ((⟨QK.out.os, QK.out.tape, QK.out.output, QK.out.size, QK.out.block⟩ : Kept A C w (X.drewN _)).set A _ (.inl rfl) _).set C _ (.inr rfl) _
      clear c3 c4 fa1 fc1 Q1 Q2 QK
      rintro X2 ⟨q1, q2, qk⟩
      have R1 := Lib.hid q1
      have R2 := Lib.hid q2
      have RK := Lib.hid qk
      clear q1 q2 qk
      go_wp2_with fail
      go_roundw
      case rel => exact ⟨k + 1, by omega, by go_num, R1.out, R2.out, RK.out⟩
      case measure => simp [intOf]; omega
    · obtain rfl : k = 32 := by omega
      rw [mx_all] at q1 q2
      rw [show ((32 : Nat) : Int) = 32 from rfl]
      have R1 := Lib.hid q1
      have R2 := Lib.hid q2
      have RK := Lib.hid qk
      clear q1 q2 qk
      go_wp2_with fail
      go_end0
      exact ⟨rfl, R1.out, R2.out, RK.out⟩

end Curve
end Go.Proofs.Ytnopjjkijedpeaa
