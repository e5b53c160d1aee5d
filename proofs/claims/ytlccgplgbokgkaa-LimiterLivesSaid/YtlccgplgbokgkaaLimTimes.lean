/- Package aditlaw17: times, rising times of steps. -/
import Derived.Test.YtlccgplgbokgkaaRowT
namespace Go.Proofs.Ytlccgplgbokgkaa
namespace Lim
open Go.ChangeShapes Go.WideShapes Go.ChangeAt Go.RowKit
open Num Mem Words Chacha Aead Poly Quiet RowV

/-- the time behind k steps -/
def tS (l : List Nat) : Nat → Nat
  | 0 => 0
  | k + 1 => tS l k + l.getD k 0 % 512
theorem tS_le (l : List Nat) : ∀ k, tS l k ≤ 511 * k
  | 0 => Nat.le_refl _
  | k + 1 => by have := tS_le l k; show tS l k + l.getD k 0 % 512 ≤ _; omega
theorem tS_mono (l : List Nat) (k : Nat) : tS l k ≤ tS l (k + 1) := Nat.le_add_right _ _
/-- the row of times -/
def tsV (l : List Nat) (k : Nat) : List Value := (List.range k).map fun i => .int .i64 (tS l (i + 1) : Nat)
theorem tsV_succ (l : List Nat) (k : Nat) : tsV l k ++ [.int .i64 (tS l (k + 1) : Nat)] = tsV l (k + 1) := by
  unfold tsV
  rw [List.range_succ, List.map_append]
  rfl
theorem tsV_get (l : List Nat) {k i : Nat} (h : i < k) : (tsV l k)[i]? = some (.int .i64 (tS l (i + 1) : Nat)) := by
  unfold tsV
  rw [List.getElem?_map, List.getElem?_range h]
  rfl
theorem tsV_length (l : List Nat) (k : Nat) : (tsV l k).length = k := by simp [tsV]
theorem and511 (x : Nat) (_ : x < 65536) : bits .and .u16 (x : Int) 511 = ((x % 512 : Nat) : Int) := by
  have e : (BitVec.ofInt 16 (x : Int) &&& BitVec.ofInt 16 511).toNat = x % 512 := by
    rw [BitVec.toNat_and, show (BitVec.ofInt 16 511).toNat = 2 ^ 9 - 1 from rfl, Nat.and_two_pow_sub_one_eq_mod]
    rw [BitVec.toNat_ofInt]
    omega
  show IntKind.u16.wrap ((BitVec.ofInt 16 (x : Int) &&& BitVec.ofInt 16 511).toNat : Int) = _
  rw [e]
  simp [IntKind.wrap, IntKind.bits, IntKind.signed]
  omega
theorem infoT : (Try.prog.info? 2).map (fun i => (i.zero, i.size, i.bytes)) = some (some (.int .i64 0), 1, 8) := by kernel_rfl

structure TimesW (w : World) (l : List Nat) (A : Option Addr) (k c : Nat) (wr : World) : Prop where
  own : wr.ownsRow w.heap.size 2 1 (.slice A k c) k (tsV l k)
  bel : Below w.heap.size w wr

set_option maxRecDepth 100000 in
theorem times_any (a : Option Addr) (n cp : Nat) (l : List Nat) (w : World) (hl : RowA.IsNums .u16 (2 ^ 16) w a n l) :
    Calls Try.prog 16 #[.slice a n cp] w fun e w' => ∃ A c, e = .returned (.slice A (min n 200) c) ∧ w'.ownsRow w.heap.size 2 1 (.slice A (min n 200) c) (min n 200) (tsV l (min n 200)) ∧ Below w.heap.size w w' := by
  obtain ⟨hlen, hn, hlt, hrd⟩ := hl
  have HLT := Lib.hid hlt
  have HRD := Lib.hid hrd
  have HLN := Lib.hid hlen
  clear hlen hlt hrd
  go_enter Try.func16, Try.ntmps16
  go_wp2_with fail
  go_loopw [3, 4, 5] (fun o t i wr => ∃ (k : Nat) (A : Option Addr) (c : Nat), k ≤ n ∧ k ≤ 200 ∧ i = .int .i64 k ∧ t = .int .i64 (tS l k : Nat) ∧ o = .slice A k c ∧ TimesW w l A k c wr) (fun _ _ i _ => 200 - (intOf i).toNat)
  case atStart => exact ⟨0, none, 0, Nat.zero_le _, Nat.zero_le _, rfl, rfl, rfl, World.ownsRow_nil _ _ _ _, Below.refl _ _⟩
  case round =>
    obtain ⟨k, A, c, hk, hk2, rfl, rfl, rfl, hT⟩ := hrel
    have HT := Lib.hid hT
    clear hT
    by_cases hgo : k < n ∧ k < 200
    · obtain ⟨h1, h2⟩ := hgo
      have hkl : k < l.length := by rw [HLN.out]; exact h1
      obtain ⟨b, off, rfl, hb, hc⟩ : ∃ b off, a = some ⟨b, off, none⟩ ∧ b < wr.heap.size ∧ wr.cell? ⟨b, off + k, none⟩ = some (.int .u16 (l[k] : Nat)) := by
        rcases HRD.out.below HT.out.bel (Nat.le_refl _) with h0 | ⟨b, off, rfl, hb, hx⟩
        · rw [List.map_eq_nil_iff] at h0; rw [h0] at hkl; exact absurd hkl (Nat.not_lt_zero _)
        · exact ⟨b, off, rfl, hb, hx k _ (by rw [List.getElem?_map, List.getElem?_eq_getElem hkl]; rfl)⟩
      have hv := HLT.out _ (List.getElem_mem hkl)
      have hs : tS l (k + 1) = tS l k + l[k] % 512 := by show tS l k + l.getD k 0 % 512 = _; rw [List.getD_eq_getElem?_getD, List.getElem?_eq_getElem hkl]; rfl
      have hand := and511 l[k] hv
      generalize l[k] = v at *
      have htk := tS_le l k
      obtain ⟨t, htt⟩ : ∃ t, tS l k = t := ⟨_, rfl⟩
      rw [htt] at hs htk ⊢
      obtain ⟨u, hu⟩ : ∃ u, tS l (k + 1) = u := ⟨_, rfl⟩
      rw [hu] at hs
      have hsum : IntKind.i64.wrap ((t : Int) + ((v % 512 : Nat) : Int)) = (u : Int) := by rw [IntKind.wrap_i64, hs]; omega
      have hcv : IntKind.i64.wrap ((v % 512 : Nat) : Int) = ((v % 512 : Nat) : Int) := by rw [IntKind.wrap_i64]; omega
      have hk3 : IntKind.i64.wrap ((k : Int) + 1) = (k : Int) + 1 := by rw [IntKind.wrap_i64]; omega
      obtain ⟨x, hx⟩ : ∃ x : Nat, v % 512 = x := ⟨_, rfl⟩
      rw [hx] at hand hsum hcv
      have hx2 : x < 512 := by omega
      have HU := Lib.hid hu
      clear hu hx hs htt
      go_wp2_with (at_builtin; refine wpList_push (.int .i64 (u : Nat)) rfl _ _ 47 2 (.int .i64 0) 8 Try.underlying47 infoT rfl rfl rfl rfl HT.out.own HT.out.bel.size rfl (by omega) (by omega) ?_; intro A2 c2 w2 hown2 hb2 hsz2)
      have HO2 := Lib.hid hown2
      have HB2 := Lib.hid hb2
      clear hown2 hb2 hsz2
      go_wp2_with fail
      go_round
      case rel => exact ⟨k + 1, A2, c2, by omega, by omega, by go_num, by rw [HU.out], by go_num, by rw [← tsV_succ, HU.out]; exact HO2.out, HT.out.bel.trans HB2.out⟩
      case measure => simp [intOf]; omega
    · have hkk : k = min n 200 := by omega
      have hnot : decide (k < n) = false ∨ (k < n ∧ decide ((k : Int) < 200) = false) := by
        by_cases h1 : k < n
        · exact Or.inr ⟨h1, decide_eq_false (by omega)⟩
        · exact Or.inl (decide_eq_false h1)
      have HK := Lib.hid hkk
      clear hgo hkk
      rcases hnot with h1 | ⟨h0, h1⟩
      · have h2 : ¬ k < n := of_decide_eq_false h1
        go_wp2_with fail
        go_ret
        refine ⟨A, c, ?_, ?_, HT.out.bel⟩
        · rw [← HK.out]; rfl
        · rw [← HK.out]; exact HT.out.own
      · have h2 : ¬ (k : Int) < 200 := of_decide_eq_false h1
        go_wp2_with fail
        go_ret
        refine ⟨A, c, ?_, ?_, HT.out.bel⟩
        · rw [← HK.out]; rfl
        · rw [← HK.out]; exact HT.out.own
end Lim
end Go.Proofs.Ytlccgplgbokgkaa
