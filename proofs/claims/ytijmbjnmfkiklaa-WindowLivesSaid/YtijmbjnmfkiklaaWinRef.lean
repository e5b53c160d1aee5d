/- The document's own answers for windows (aditref15) over a row of numbers that were taken. -/
import Derived.Test.YtijmbjnmfkiklaaWinAny
import Derived.Test.YtijmbjnmfkiklaaWinPlay
import Derived.Test.YtijmbjnmfkiklaaRowV
namespace Go.Proofs.Ytijmbjnmfkiklaa
namespace WinT
def grl (l : List Nat) : Nat := l.foldl (fun g v => if v + 1 > g then v + 1 else g) 0
theorem grl_snoc (l : List Nat) (m : Nat) : grl (l ++ [m]) = if m + 1 > grl l then m + 1 else grl l := by unfold grl; rw [List.foldl_append]; rfl
theorem grl_spec (l : List Nat) : (∀ m ∈ l, m < grl l) ∧ (grl l = 0 ∧ l = [] ∨ 0 < grl l ∧ grl l - 1 ∈ l) := by
  have key : ∀ (n : Nat) (l : List Nat), l.length = n → (∀ m ∈ l, m < grl l) ∧ (grl l = 0 ∧ l = [] ∨ 0 < grl l ∧ grl l - 1 ∈ l) := by
    intro n
    induction n with
    | zero => intro l h; obtain rfl := List.eq_nil_of_length_eq_zero h; exact ⟨by simp, .inl ⟨rfl, rfl⟩⟩
    | succ n ih =>
      intro l h
      obtain ⟨a, m, rfl⟩ : ∃ a m, l = a ++ [m] := ⟨l.dropLast, l.getLast (by intro e; rw [e] at h; cases h), (List.dropLast_concat_getLast _).symm⟩
      have h1 := ih a (by rw [List.length_append] at h; simp at h; exact h)
      rw [grl_snoc]
      by_cases c : m + 1 > grl a
      · rw [if_pos c]
        refine ⟨?_, .inr ⟨by omega, by simp⟩⟩
        intro j hj
        rw [List.mem_append, List.mem_singleton] at hj
        rcases hj with hj | rfl
        · have := h1.1 j hj; omega
        · omega
      · rw [if_neg c]
        refine ⟨?_, ?_⟩
        · intro j hj
          rw [List.mem_append, List.mem_singleton] at hj
          rcases hj with hj | rfl
          · exact h1.1 j hj
          · omega
        · rcases h1.2 with ⟨h2, _⟩ | ⟨h2, h3⟩
          · omega
          · exact .inr ⟨h2, List.mem_append_left _ h3⟩
  exact key _ l rfl
theorem grl_is {s : St} {l : List Nat} (h : Is s l) : grl l = s.n := by
  have g := grl_spec l
  rcases h.top with ⟨h1, rfl⟩ | ⟨h1, h2⟩
  · rw [h1]; rfl
  · have a := g.1 _ h2
    rcases g.2 with ⟨_, e⟩ | ⟨h3, h4⟩
    · rw [e] at h2; cases h2
    · have b := h.le _ h4
      omega
end WinT
namespace Win
open Go.ChangeShapes Go.WideShapes Go.ChangeAt Go.RowKit
open Num Mem Words Chacha Aead Poly Quiet WinT RowV

theorem u64_cell {w : World} {A : Option Addr} {l : List Nat} (h : RdV w A (l.map fun v => .int .u64 (v : Nat))) {k : Nat} (hk : k < l.length) : ∃ b off, A = some ⟨b, off, none⟩ ∧ b < w.heap.size ∧ w.cell? ⟨b, off + k, none⟩ = some (.int .u64 (l[k] : Nat)) := by
  rcases h with h | ⟨b, off, e, hb, hx⟩
  · have := congrArg List.length h
    rw [List.length_map, List.length_nil] at this
    omega
  · exact ⟨b, off, e, hb, hx k _ (by rw [List.getElem?_map, List.getElem?_eq_getElem hk]; rfl)⟩

set_option maxRecDepth 100000 in
theorem refhas_any (A : Option Addr) (n c : Nat) (l : List Nat) (hl : l.length = n) (hn : n ≤ 9223372036854775807) (m : Nat) (w : World) (hr : RdV w A (l.map fun v => .int .u64 (v : Nat))) :
    Calls Try.prog 47 #[.slice A n c, .int .u64 m] w fun e w' => e = .returned (.bool (decide (m ∈ l))) ∧ w = w' := by
  have HR := Lib.hid hr
  have HL := Lib.hid hl
  clear hr hl
  go_enter Try.func47, Try.ntmps47
  go_wp2
  go_loop [5] (fun i => ∃ k : Nat, k ≤ n ∧ i = .int .i64 k ∧ m ∉ l.take k) (fun i => n - (intOf i).toNat)
  case atStart => exact ⟨0, Nat.zero_le _, rfl, by simp⟩
  case round =>
    obtain ⟨k, hk, rfl, hno⟩ := hrel
    have HNO := Lib.hid hno
    clear hno
    by_cases hlt : k < n
    · have hkl : k < l.length := by rw [HL.out]; exact hlt
      obtain ⟨b, off, rfl, hb, hc⟩ := u64_cell HR.out hkl
      have hs := List.take_succ_eq_append_getElem hkl
      have hmem := List.getElem_mem hkl
      generalize l[k] = v at *
      have HS := Lib.hid hs
      have HM := Lib.hid hmem
      clear hs hmem hkl
      by_cases hv : v = m
      · subst hv
        have h1 : ((v : Int) == v) = true := by simp
        go_wp2
        go_ret
        exact ⟨by rw [decide_eq_true HM.out]; rfl, rfl⟩
      · have h1 : ((v : Int) == m) = false := by rw [beq_eq_false_iff_ne]; omega
        have h2 : ((v : Int) = m) = False := eq_false (by omega)
        have HV := Lib.hid hv
        clear hv
        go_wp2
        go_round
        case rel => exact ⟨k + 1, by omega, by go_num, by rw [HS.out]; intro h; rw [List.mem_append, List.mem_singleton] at h; rcases h with h | h; exact HNO.out h; exact HV.out h.symm⟩
        case measure => simp [intOf]; omega
    · have hkk : l.take k = l := List.take_of_length_le (by rw [HL.out]; omega)
      have HK := Lib.hid (show m ∉ l by have := HNO.out; rwa [hkk] at this)
      clear hkk
      go_wp2
      go_ret
      exact ⟨by rw [decide_eq_false HK.out]; rfl, rfl⟩

set_option maxRecDepth 100000 in
theorem refgr_any (A : Option Addr) (n c : Nat) (l : List Nat) (hl : l.length = n) (hn : n ≤ 9223372036854775807) (hsp : ∀ v ∈ l, v < 18446744073709551615) (w : World) (hr : RdV w A (l.map fun v => .int .u64 (v : Nat))) :
    Calls Try.prog 22 #[.slice A n c] w fun e w' => e = .returned (.int .u64 (grl l : Nat)) ∧ w = w' := by
  have HR := Lib.hid hr
  have HL := Lib.hid hl
  have HP := Lib.hid hsp
  clear hr hl hsp
  go_enter Try.func22, Try.ntmps22
  go_wp2
  go_loop [3, 4] (fun g i => ∃ k : Nat, k ≤ n ∧ i = .int .i64 k ∧ g = .int .u64 (grl (l.take k) : Nat)) (fun _ i => n - (intOf i).toNat)
  case atStart => exact ⟨0, Nat.zero_le _, rfl, rfl⟩
  case round =>
    obtain ⟨k, hk, rfl, rfl⟩ := hrel
    by_cases hlt : k < n
    · have hkl : k < l.length := by rw [HL.out]; exact hlt
      obtain ⟨b, off, rfl, hb, hc⟩ := u64_cell HR.out hkl
      have hs : grl (l.take (k + 1)) = _ := (congrArg grl (List.take_succ_eq_append_getElem hkl)).trans (grl_snoc _ _)
      have hv := HP.out _ (List.getElem_mem hkl)
      generalize l[k] = v at *
      have HS := Lib.hid hs
      clear hs hkl
      generalize grl (l.take k) = g at *
      by_cases hg : g < v + 1
      · have HG := Lib.hid (HS.out.trans (if_pos hg))
        have h1 : (g : Int) < (v : Int) + 1 := by omega
        go_wp2
        go_round
        case rel => exact ⟨k + 1, by omega, by go_num, by rw [HG.out]; go_num⟩
        case measure => simp [intOf]; omega
      · have HG := Lib.hid (HS.out.trans (if_neg hg))
        have h1 : ¬ (g : Int) < (v : Int) + 1 := by omega
        have h2 : (v : Int) + 1 ≤ g := by omega
        go_wp2
        go_round
        case rel => exact ⟨k + 1, by omega, by go_num, by rw [HG.out]⟩
        case measure => simp [intOf]; omega
    · have HK := Lib.hid (show l.take k = l from List.take_of_length_le (by rw [HL.out]; omega))
      go_wp2
      go_ret
      exact ⟨by rw [HK.out]; rfl, rfl⟩

set_option maxRecDepth 100000 in
theorem reflate_any (A : Option Addr) (n c : Nat) (l : List Nat) (hl : l.length = n) (hn : n ≤ 9223372036854775807) (s : St) (hs : Is s l) (m : Nat) (w : World) (hr : RdV w A (l.map fun v => .int .u64 (v : Nat))) :
    Calls Try.prog 48 #[.slice A n c, .int .u64 m] w fun e w' => e = .returned (.bool (decide (m < s.n ∧ 128 ≤ s.n - 1 - m))) ∧ w = w' := by
  have HG := refgr_any A n c l hl hn (fun v hv => Nat.lt_of_lt_of_le (hs.le v hv) (by have := hs.ok.1; omega)) w hr
  rw [grl_is hs] at HG
  have hb := hs.ok.1
  generalize s.n = g at *
  have C := Lib.hid HG
  clear HG hs hr hl
  by_cases h1 : m < g
  · by_cases h2 : 128 ≤ g - 1 - m
    · have h3 : (128 : Int) ≤ (g : Int) - 1 - m := by omega
      rw [decide_eq_true ⟨h1, h2⟩]
      go_enter Try.func48, Try.ntmps48
      go_wp2_with fail
      refine C.out.mono ?_
      rintro e w1 ⟨rfl, rfl⟩
      go_wp2_with fail
      go_ret
      exact ⟨rfl, rfl⟩
    · have h3 : ¬ (128 : Int) ≤ (g : Int) - 1 - m := by omega
      have h4 : decide ((128 : Int) ≤ (g : Int) - 1 - m) = false := decide_eq_false h3
      rw [decide_eq_false (fun h => h2 h.2)]
      go_enter Try.func48, Try.ntmps48
      go_wp2_with fail
      refine C.out.mono ?_
      rintro e w1 ⟨rfl, rfl⟩
      go_wp2_with fail
      go_ret
      exact ⟨rfl, rfl⟩
  · rw [decide_eq_false (fun h => h1 h.1)]
    have h2 : decide (m < g) = false := decide_eq_false h1
    have h3 : g = 0 ∨ 0 < g := by omega
    rcases h3 with rfl | h3
    · go_enter Try.func48, Try.ntmps48
      go_wp2_with fail
      refine C.out.mono ?_
      rintro e w1 ⟨rfl, rfl⟩
      go_wp2_with fail
      go_ret
      exact ⟨rfl, rfl⟩
    · go_enter Try.func48, Try.ntmps48
      go_wp2_with fail
      refine C.out.mono ?_
      rintro e w1 ⟨rfl, rfl⟩
      go_wp2_with fail
      go_ret
      exact ⟨rfl, rfl⟩

set_option maxRecDepth 100000 in
theorem refhas2_any (A : Option Addr) (n c : Nat) (l : List Nat) (hl : l.length = n) (hn : n ≤ 9223372036854775807) (s : St) (hs : Is s l) (m : Nat) (w : World) (hr : RdV w A (l.map fun v => .int .u64 (v : Nat))) :
    Calls Try.prog 19 #[.slice A n c, .int .u64 m] w fun e w' => e = .returned (.bool (has0 s m)) ∧ w = w' := by
  have C1 := Lib.hid (refhas_any A n c l hl hn m w hr)
  have C2 := Lib.hid (reflate_any A n c l hl hn s hs m w hr)
  have e : has0 s m = (decide (m ∈ l) && !decide (m < s.n ∧ 128 ≤ s.n - 1 - m)) := by
    rw [Bool.eq_iff_iff, has_is hs]; simp; intro _; omega
  rw [e]
  clear e hs hr hl
  generalize decide (m < s.n ∧ 128 ≤ s.n - 1 - m) = q at *
  by_cases h : m ∈ l
  · rw [decide_eq_true h] at C1 ⊢
    clear h
    go_enter Try.func19, Try.ntmps19
    go_wp2_with fail
    refine C1.out.mono ?_
    rintro e w1 ⟨rfl, rfl⟩
    go_wp2_with fail
    refine C2.out.mono ?_
    rintro e w1 ⟨rfl, rfl⟩
    go_wp2_with fail
    go_ret
    exact ⟨rfl, rfl⟩
  · rw [decide_eq_false h] at C1 ⊢
    clear h
    go_enter Try.func19, Try.ntmps19
    go_wp2_with fail
    refine C1.out.mono ?_
    rintro e w1 ⟨rfl, rfl⟩
    go_wp2_with fail
    go_ret
    exact ⟨rfl, rfl⟩

set_option maxRecDepth 100000 in
theorem refcheck_any (A : Option Addr) (n c : Nat) (l : List Nat) (hl : l.length = n) (hn : n ≤ 9223372036854775807) (s : St) (hs : Is s l) (m : Nat) (w : World) (hr : RdV w A (l.map fun v => .int .u64 (v : Nat))) :
    Calls Try.prog 17 #[.slice A n c, .int .u64 m] w fun e w' => e = .returned (.int .i64 (check s m : Nat)) ∧ w = w' := by
  have C1 := Lib.hid (refhas_any A n c l hl hn m w hr)
  have C2 := Lib.hid (reflate_any A n c l hl hn s hs m w hr)
  rw [check_is hs]
  have hsp : spent = 18446744073709543423 := rfl
  clear hs hr hl
  obtain ⟨M, hM⟩ : ∃ M : Int, M = (m : Int) := ⟨_, rfl⟩
  rw [← hM] at C1 C2 ⊢
  by_cases h0 : spent ≤ m
  · rw [if_pos h0]
    have h1 : (18446744073709543422 : Int) < M := by omega
    clear hM h0 hsp C1 C2
    go_enter Try.func17, Try.ntmps17
    go_wp2_with fail
    go_ret
    exact ⟨rfl, rfl⟩
  · rw [if_neg h0]
    have h1 : decide ((18446744073709543422 : Int) < M) = false := decide_eq_false (by omega)
    clear hM h0 hsp
    by_cases h : m ∈ l
    · rw [if_pos (show m ∈ l ∨ _ from .inl h)]
      rw [decide_eq_true h] at C1
      clear h
      go_enter Try.func17, Try.ntmps17
      go_wp2_with fail
      refine C1.out.mono ?_
      rintro e w1 ⟨rfl, rfl⟩
      go_wp2_with fail
      go_ret
      exact ⟨rfl, rfl⟩
    · rw [decide_eq_false h] at C1
      by_cases h2 : m < s.n ∧ 128 ≤ s.n - 1 - m
      · rw [if_pos (show m ∈ l ∨ _ from .inr h2)]
        rw [decide_eq_true h2] at C2
        clear h h2
        go_enter Try.func17, Try.ntmps17
        go_wp2_with fail
        refine C1.out.mono ?_
        rintro e w1 ⟨rfl, rfl⟩
        go_wp2_with fail
        refine C2.out.mono ?_
        rintro e w1 ⟨rfl, rfl⟩
        go_wp2_with fail
        go_ret
        exact ⟨rfl, rfl⟩
      · rw [if_neg (fun k => k.elim h h2)]
        rw [decide_eq_false h2] at C2
        clear h h2
        go_enter Try.func17, Try.ntmps17
        go_wp2_with fail
        refine C1.out.mono ?_
        rintro e w1 ⟨rfl, rfl⟩
        go_wp2_with fail
        refine C2.out.mono ?_
        rintro e w1 ⟨rfl, rfl⟩
        go_wp2_with fail
        go_ret
        exact ⟨rfl, rfl⟩
end Win
end Go.Proofs.Ytijmbjnmfkiklaa
