/- The document's own ReadNumber and IsName. -/
import Derived.Test.YtdcpbojknondcaaDoorTextNum
namespace Go.Proofs.YtdcpbojknondcaaDoor
namespace Text
open Go.ChangeShapes Go.WideShapes Go.ChangeAt Go.RowKit
open Num Mem

theorem nAt_succ (s : ByteArray) (k : Nat) : nAt s (k + 1) = nAt s k * 10 + (chr s k - 48) := rfl

set_option maxRecDepth 100000 in
set_option maxHeartbeats 4000000 in
theorem refReadNumber_any (s : ByteArray) (hs : s.size < 2 ^ 62) (most : Nat) (hm : most < 2 ^ 64) (w : World) :
    Calls Tryd.prog 8 #[.string s, .int .u64 (most : Nat)] w fun e w' => e = .returned (.tuple #[.int .u64 (rnV s most : Nat), .int .i64 (rnE s most : Nat)]) ∧ w' = w := by
  have HBAD : isNum s = false → Hid (rnV s most = 0 ∧ rnE s most = 3) := fun hN => ⟨by unfold rnV; rw [if_neg (by rw [hN]; simp)], by unfold rnE; rw [if_pos hN]⟩
  by_cases h0 : s.size = 0
  · have HR := HBAD (by unfold isNum; simp [h0])
    have z0 : (((s.size : Nat) : Int) == 0) = true := beq_iff_eq.2 (by omega)
    clear HBAD
    go_enter Tryd.func8, Tryd.ntmps8
    go_wp2
    go_ret2
    exact ⟨by rw [HR.out.1, HR.out.2]; rfl, rfl⟩
  have z0 : (((s.size : Nat) : Int) == 0) = false := beq_false_of_ne (by omega)
  have hp : 0 < s.size := by omega
  have hi0 : (0 : Int) < (s.size : Int) := by omega
  obtain ⟨a, ha⟩ : ∃ a, s[0].toNat = a := ⟨_, rfl⟩
  have haa : chr s 0 = a := by rw [← ha]; exact (Mem.chr_get s 0 hp).symm
  have hA : ((s[0].toNat : Nat) : Int) = (a : Int) := by omega
  by_cases h1 : a = 48
  · have e1 : ((a : Int) == 48) = true := beq_iff_eq.2 (by omega)
    by_cases h2 : 1 < s.size
    · have HR := HBAD (by unfold isNum; rw [haa]; simp [h1]; omega)
      have d2 : decide ((1 : Int) < (s.size : Int)) = true := decide_eq_true (by omega)
      clear HBAD h1 haa
      go_enter Tryd.func8, Tryd.ntmps8
      go_wp2
      go_ret2
      exact ⟨by rw [HR.out.1, HR.out.2]; rfl, rfl⟩
    · have d2 : decide ((1 : Int) < (s.size : Int)) = false := decide_eq_false (by omega)
      have HNUM := Lib.hid (show digsTo s s.size = true → isNum s = true from fun h => by unfold isNum; rw [h]; simp; omega)
      clear HBAD h1 haa
      go_enter Tryd.func8, Tryd.ntmps8
      go_wp2
      clear e1 d2 z0 hi0 hA ha
      go_loopw [6, 7, 8] (fun n b i wr => ∃ (k v : Nat) (l : Bool), k ≤ s.size ∧ i = .int .i64 k ∧ n = .int .u64 v ∧ b = .bool l ∧ Hid (digsTo s k = true) ∧ Hid (v < 2 ^ 64 ∧ (l = false → v = nAt s k) ∧ (l = true → 2 ^ 64 ≤ nAt s k)) ∧ wr = w)
        (fun _ _ i _ => s.size - (intOf i).toNat)
      case atStart => exact ⟨0, 0, false, Nat.zero_le _, rfl, rfl, rfl, rfl, ⟨by decide, fun _ => rfl, fun h => absurd h (by decide)⟩, rfl⟩
      case round =>
        obtain ⟨k, v, l, hk, rfl, rfl, rfl, HD, HV, hw⟩ := hrel
        have hw' := hw.symm
        subst hw'
        clear hw
        by_cases hlt : k < s.size
        · have hT : (decide ((k : Int) < (s.size : Int))) = true := decide_eq_true (by omega)
          obtain ⟨c, hc⟩ : ∃ c, s[k].toNat = c := ⟨_, rfl⟩
          have hcc : chr s k = c := by rw [← hc]; exact (Mem.chr_get s k hlt).symm
          by_cases hb : digB c = true
          · have hb' : 48 ≤ c ∧ c ≤ 57 := by unfold digB at hb; simpa using hb
            obtain ⟨d, rfl⟩ : ∃ d, c = d + 48 := ⟨c - 48, by omega⟩
            have hL1 : (decide (((d : Int) + 48) < 48)) = false := decide_eq_false (by omega)
            have hL2 : (decide ((57 : Int) < (d : Int) + 48)) = false := decide_eq_false (by omega)
            have hL0 : ((s[k].toNat : Nat) : Int) = (d : Int) + 48 := by omega
            have hd9 : d ≤ 9 := by omega
            have hst : nAt s (k + 1) = nAt s k * 10 + d := by rw [nAt_succ, hcc]; omega
            have hdg : digsTo s (k + 1) = true := by rw [digsTo_step, HD.out, hcc, hb]; rfl
            have HS := Lib.hid hst
            have HDG := Lib.hid hdg
            have hsub : IntKind.u64.wrap ((d : Int) + 48 - 48) = (d : Int) := by rw [IntKind.wrap_u64]; omega
            clear hst hdg hcc hb hb'
            have hv := HV.out.1
            by_cases h1 : 1844674407370955161 < v
            · have d1 : decide ((1844674407370955161 : Int) < (v : Int)) = true := decide_eq_true (by omega)
              have HN := Lib.hid (show v < 2 ^ 64 ∧ (true = false → v = nAt s (k + 1)) ∧ (true = true → 2 ^ 64 ≤ nAt s (k + 1)) from ⟨hv, fun h => absurd h (by decide), fun _ => by
                have h2 := HV.out.2.1
                have h3 := HV.out.2.2
                rw [HS.out]
                cases l
                · have := h2 rfl; omega
                · have := h3 rfl; omega⟩)
              clear h1 hv HV
              go_wp2
              refine ⟨⟨k + 1, v, true, by omega, rfl, rfl, rfl, HDG, HN, trivial⟩, ?_⟩
              show s.size - ((k : Int) + 1).toNat < s.size - (k : Int).toNat
              omega
            have d1 : decide ((1844674407370955161 : Int) < (v : Int)) = false := decide_eq_false (by omega)
            by_cases h2 : v = 1844674407370955161 ∧ 5 < d
            · have e1 : ((v : Int) == 1844674407370955161) = true := beq_iff_eq.2 (by omega)
              have d2 : decide ((5 : Int) < (d : Int)) = true := decide_eq_true (by omega)
              have HN := Lib.hid (show v < 2 ^ 64 ∧ (true = false → v = nAt s (k + 1)) ∧ (true = true → 2 ^ 64 ≤ nAt s (k + 1)) from ⟨hv, fun h => absurd h (by decide), fun _ => by
                have h3 := HV.out.2.1
                have h4 := HV.out.2.2
                rw [HS.out]
                cases l
                · have := h3 rfl; omega
                · have := h4 rfl; omega⟩)
              clear h1 h2 hv HV
              go_wp2
              refine ⟨⟨k + 1, v, true, by omega, rfl, rfl, rfl, HDG, HN, trivial⟩, ?_⟩
              show s.size - ((k : Int) + 1).toNat < s.size - (k : Int).toNat
              omega
            obtain ⟨m, hm⟩ : ∃ m, 10 * v + d = m := ⟨_, rfl⟩
            have hmul : IntKind.u64.wrap (10 * (v : Int)) = 10 * (v : Int) := by rw [IntKind.wrap_u64]; omega
            have hadd : IntKind.u64.wrap (10 * (v : Int) + (d : Int)) = (m : Int) := by rw [IntKind.wrap_u64]; omega
            have HN := Lib.hid (show m < 2 ^ 64 ∧ (l = false → m = nAt s (k + 1)) ∧ (l = true → 2 ^ 64 ≤ nAt s (k + 1)) from ⟨by omega, fun h => by
                have h3 := HV.out.2.1 h
                rw [HS.out]
                omega, fun h => by
                have h3 := HV.out.2.2 h
                rw [HS.out]
                omega⟩)
            by_cases h3 : v = 1844674407370955161
            · have e1 : ((v : Int) == 1844674407370955161) = true := beq_iff_eq.2 (by omega)
              have d2 : decide ((5 : Int) < (d : Int)) = false := decide_eq_false (by omega)
              clear h1 h2 h3 hv HV hm
              go_wp2
              refine ⟨⟨k + 1, m, l, by omega, rfl, rfl, rfl, HDG, HN, trivial⟩, ?_⟩
              show s.size - ((k : Int) + 1).toNat < s.size - (k : Int).toNat
              omega
            · have e1 : ((v : Int) == 1844674407370955161) = false := beq_false_of_ne (by omega)
              clear h1 h2 h3 hv HV hm
              go_wp2
              refine ⟨⟨k + 1, m, l, by omega, rfl, rfl, rfl, HDG, HN, trivial⟩, ?_⟩
              show s.size - ((k : Int) + 1).toNat < s.size - (k : Int).toNat
              omega
          · have hb : digB c = false := by simpa using hb
            have hno : digsTo s s.size = false := digs_no hlt (by rw [hcc]; exact hb)
            have hN : isNum s = false := by unfold isNum; rw [hno]; simp
            have hV : rnV s most = 0 := by unfold rnV; rw [if_neg (by rw [hN]; simp)]
            have hE : rnE s most = 3 := by unfold rnE; rw [if_pos hN]
            have HR := Lib.hid (show rnV s most = 0 ∧ rnE s most = 3 from ⟨hV, hE⟩)
            have hL0 : ((s[k].toNat : Nat) : Int) = (c : Int) := by omega
            clear hno hN hV hE
            by_cases h1 : c < 48
            · have d1 : decide ((c : Int) < 48) = true := decide_eq_true (by omega)
              clear hb h1
              go_wp2
              go_ret2
              exact ⟨by rw [HR.out.1, HR.out.2]; rfl, rfl⟩
            · have d1 : decide ((c : Int) < 48) = false := decide_eq_false (by omega)
              have d2 : decide ((57 : Int) < (c : Int)) = true := decide_eq_true (by unfold digB at hb; simp at hb; omega)
              clear hb h1
              go_wp2
              go_ret2
              exact ⟨by rw [HR.out.1, HR.out.2]; rfl, rfl⟩
        · obtain rfl : k = s.size := by omega
          have hN : isNum s = true := HNUM.out HD.out
          cases l
          · have hv : v = nAt s s.size := HV.out.2.1 rfl
            by_cases hle : nAt s s.size ≤ most
            · have HR := Lib.hid (show rnV s most = v ∧ rnE s most = 0 from ⟨by rw [rn_ok hN hle, hv], rn_okE hN hle⟩)
              have d1 : v ≤ most := by omega
              clear hle hv HV hN
              go_wp2
              go_ret2
              exact ⟨by rw [HR.out.1, HR.out.2]; rfl, rfl⟩
            · have HR := Lib.hid (show rnV s most = 0 ∧ rnE s most = 2 from ⟨rn_long hN (by omega), rn_longE hN (by omega)⟩)
              have d1 : most < v := by omega
              clear hle hv HV hN
              go_wp2
              go_ret2
              exact ⟨by rw [HR.out.1, HR.out.2]; rfl, rfl⟩
          · have hv := HV.out.2.2 rfl
            have HR := Lib.hid (show rnV s most = 0 ∧ rnE s most = 2 from ⟨rn_long hN (by omega), rn_longE hN (by omega)⟩)
            clear hv HV hN
            go_wp2
            go_ret2
            exact ⟨by rw [HR.out.1, HR.out.2]; rfl, rfl⟩
  · have e1 : ((a : Int) == 48) = false := beq_false_of_ne (by omega)
    have HNUM := Lib.hid (show digsTo s s.size = true → isNum s = true from fun h => by unfold isNum; rw [h, haa]; simp [h1]; omega)
    clear HBAD h1 haa
    go_enter Tryd.func8, Tryd.ntmps8
    go_wp2
    clear e1 z0 hi0 hA ha
    go_loopw [6, 7, 8] (fun n b i wr => ∃ (k v : Nat) (l : Bool), k ≤ s.size ∧ i = .int .i64 k ∧ n = .int .u64 v ∧ b = .bool l ∧ Hid (digsTo s k = true) ∧ Hid (v < 2 ^ 64 ∧ (l = false → v = nAt s k) ∧ (l = true → 2 ^ 64 ≤ nAt s k)) ∧ wr = w)
      (fun _ _ i _ => s.size - (intOf i).toNat)
    case atStart => exact ⟨0, 0, false, Nat.zero_le _, rfl, rfl, rfl, rfl, ⟨by decide, fun _ => rfl, fun h => absurd h (by decide)⟩, rfl⟩
    case round =>
      obtain ⟨k, v, l, hk, rfl, rfl, rfl, HD, HV, hw⟩ := hrel
      have hw' := hw.symm
      subst hw'
      clear hw
      by_cases hlt : k < s.size
      · have hT : (decide ((k : Int) < (s.size : Int))) = true := decide_eq_true (by omega)
        obtain ⟨c, hc⟩ : ∃ c, s[k].toNat = c := ⟨_, rfl⟩
        have hcc : chr s k = c := by rw [← hc]; exact (Mem.chr_get s k hlt).symm
        by_cases hb : digB c = true
        · have hb' : 48 ≤ c ∧ c ≤ 57 := by unfold digB at hb; simpa using hb
          obtain ⟨d, rfl⟩ : ∃ d, c = d + 48 := ⟨c - 48, by omega⟩
          have hL1 : (decide (((d : Int) + 48) < 48)) = false := decide_eq_false (by omega)
          have hL2 : (decide ((57 : Int) < (d : Int) + 48)) = false := decide_eq_false (by omega)
          have hL0 : ((s[k].toNat : Nat) : Int) = (d : Int) + 48 := by omega
          have hd9 : d ≤ 9 := by omega
          have hst : nAt s (k + 1) = nAt s k * 10 + d := by rw [nAt_succ, hcc]; omega
          have hdg : digsTo s (k + 1) = true := by rw [digsTo_step, HD.out, hcc, hb]; rfl
          have HS := Lib.hid hst
          have HDG := Lib.hid hdg
          have hsub : IntKind.u64.wrap ((d : Int) + 48 - 48) = (d : Int) := by rw [IntKind.wrap_u64]; omega
          clear hst hdg hcc hb hb'
          have hv := HV.out.1
          by_cases h1 : 1844674407370955161 < v
          · have d1 : decide ((1844674407370955161 : Int) < (v : Int)) = true := decide_eq_true (by omega)
            have HN := Lib.hid (show v < 2 ^ 64 ∧ (true = false → v = nAt s (k + 1)) ∧ (true = true → 2 ^ 64 ≤ nAt s (k + 1)) from ⟨hv, fun h => absurd h (by decide), fun _ => by
              have h2 := HV.out.2.1
              have h3 := HV.out.2.2
              rw [HS.out]
              cases l
              · have := h2 rfl; omega
              · have := h3 rfl; omega⟩)
            clear h1 hv HV
            go_wp2
            refine ⟨⟨k + 1, v, true, by omega, rfl, rfl, rfl, HDG, HN, trivial⟩, ?_⟩
            show s.size - ((k : Int) + 1).toNat < s.size - (k : Int).toNat
            omega
          have d1 : decide ((1844674407370955161 : Int) < (v : Int)) = false := decide_eq_false (by omega)
          by_cases h2 : v = 1844674407370955161 ∧ 5 < d
          · have e1 : ((v : Int) == 1844674407370955161) = true := beq_iff_eq.2 (by omega)
            have d2 : decide ((5 : Int) < (d : Int)) = true := decide_eq_true (by omega)
            have HN := Lib.hid (show v < 2 ^ 64 ∧ (true = false → v = nAt s (k + 1)) ∧ (true = true → 2 ^ 64 ≤ nAt s (k + 1)) from ⟨hv, fun h => absurd h (by decide), fun _ => by
              have h3 := HV.out.2.1
              have h4 := HV.out.2.2
              rw [HS.out]
              cases l
              · have := h3 rfl; omega
              · have := h4 rfl; omega⟩)
            clear h1 h2 hv HV
            go_wp2
            refine ⟨⟨k + 1, v, true, by omega, rfl, rfl, rfl, HDG, HN, trivial⟩, ?_⟩
            show s.size - ((k : Int) + 1).toNat < s.size - (k : Int).toNat
            omega
          obtain ⟨m, hm⟩ : ∃ m, 10 * v + d = m := ⟨_, rfl⟩
          have hmul : IntKind.u64.wrap (10 * (v : Int)) = 10 * (v : Int) := by rw [IntKind.wrap_u64]; omega
          have hadd : IntKind.u64.wrap (10 * (v : Int) + (d : Int)) = (m : Int) := by rw [IntKind.wrap_u64]; omega
          have HN := Lib.hid (show m < 2 ^ 64 ∧ (l = false → m = nAt s (k + 1)) ∧ (l = true → 2 ^ 64 ≤ nAt s (k + 1)) from ⟨by omega, fun h => by
              have h3 := HV.out.2.1 h
              rw [HS.out]
              omega, fun h => by
              have h3 := HV.out.2.2 h
              rw [HS.out]
              omega⟩)
          by_cases h3 : v = 1844674407370955161
          · have e1 : ((v : Int) == 1844674407370955161) = true := beq_iff_eq.2 (by omega)
            have d2 : decide ((5 : Int) < (d : Int)) = false := decide_eq_false (by omega)
            clear h1 h2 h3 hv HV hm
            go_wp2
            refine ⟨⟨k + 1, m, l, by omega, rfl, rfl, rfl, HDG, HN, trivial⟩, ?_⟩
            show s.size - ((k : Int) + 1).toNat < s.size - (k : Int).toNat
            omega
          · have e1 : ((v : Int) == 1844674407370955161) = false := beq_false_of_ne (by omega)
            clear h1 h2 h3 hv HV hm
            go_wp2
            refine ⟨⟨k + 1, m, l, by omega, rfl, rfl, rfl, HDG, HN, trivial⟩, ?_⟩
            show s.size - ((k : Int) + 1).toNat < s.size - (k : Int).toNat
            omega
        · have hb : digB c = false := by simpa using hb
          have hno : digsTo s s.size = false := digs_no hlt (by rw [hcc]; exact hb)
          have hN : isNum s = false := by unfold isNum; rw [hno]; simp
          have hV : rnV s most = 0 := by unfold rnV; rw [if_neg (by rw [hN]; simp)]
          have hE : rnE s most = 3 := by unfold rnE; rw [if_pos hN]
          have HR := Lib.hid (show rnV s most = 0 ∧ rnE s most = 3 from ⟨hV, hE⟩)
          have hL0 : ((s[k].toNat : Nat) : Int) = (c : Int) := by omega
          clear hno hN hV hE
          by_cases h1 : c < 48
          · have d1 : decide ((c : Int) < 48) = true := decide_eq_true (by omega)
            clear hb h1
            go_wp2
            go_ret2
            exact ⟨by rw [HR.out.1, HR.out.2]; rfl, rfl⟩
          · have d1 : decide ((c : Int) < 48) = false := decide_eq_false (by omega)
            have d2 : decide ((57 : Int) < (c : Int)) = true := decide_eq_true (by unfold digB at hb; simp at hb; omega)
            clear hb h1
            go_wp2
            go_ret2
            exact ⟨by rw [HR.out.1, HR.out.2]; rfl, rfl⟩
      · obtain rfl : k = s.size := by omega
        have hN : isNum s = true := HNUM.out HD.out
        cases l
        · have hv : v = nAt s s.size := HV.out.2.1 rfl
          by_cases hle : nAt s s.size ≤ most
          · have HR := Lib.hid (show rnV s most = v ∧ rnE s most = 0 from ⟨by rw [rn_ok hN hle, hv], rn_okE hN hle⟩)
            have d1 : v ≤ most := by omega
            clear hle hv HV hN
            go_wp2
            go_ret2
            exact ⟨by rw [HR.out.1, HR.out.2]; rfl, rfl⟩
          · have HR := Lib.hid (show rnV s most = 0 ∧ rnE s most = 2 from ⟨rn_long hN (by omega), rn_longE hN (by omega)⟩)
            have d1 : most < v := by omega
            clear hle hv HV hN
            go_wp2
            go_ret2
            exact ⟨by rw [HR.out.1, HR.out.2]; rfl, rfl⟩
        · have hv := HV.out.2.2 rfl
          have HR := Lib.hid (show rnV s most = 0 ∧ rnE s most = 2 from ⟨rn_long hN (by omega), rn_longE hN (by omega)⟩)
          clear hv HV hN
          go_wp2
          go_ret2
          exact ⟨by rw [HR.out.1, HR.out.2]; rfl, rfl⟩

set_option maxRecDepth 100000 in
set_option maxHeartbeats 8000000 in
theorem refIsName_any (s : ByteArray) (hs : s.size < 2 ^ 62) (w : World) : Calls Tryd.prog 12 #[.string s] w fun e w' => e = .returned (.bool (isName s)) ∧ w' = w := by
  by_cases h0 : s.size = 0
  · have HR := Lib.hid (show isName s = false by unfold isName; simp [h0])
    have z0 : (((s.size : Nat) : Int) == 0) = true := beq_iff_eq.2 (by omega)
    go_enter Tryd.func12, Tryd.ntmps12
    go_wp2
    go_ret
    exact ⟨by rw [HR.out]; rfl, rfl⟩
  have z0 : (((s.size : Nat) : Int) == 0) = false := beq_false_of_ne (by omega)
  by_cases h1 : 16 < s.size
  · have HR := Lib.hid (show isName s = false by unfold isName; simp; omega)
    have d1 : (decide ((16 : Int) < (s.size : Int))) = true := decide_eq_true (by omega)
    go_enter Tryd.func12, Tryd.ntmps12
    go_wp2
    go_ret
    exact ⟨by rw [HR.out]; rfl, rfl⟩
  have d1 : (decide ((16 : Int) < (s.size : Int))) = false := decide_eq_false (by omega)
  have hp : 0 < s.size := by omega
  have hi0 : (0 : Int) < (s.size : Int) := by omega
  have hi1 : (0 : Int) ≤ (s.size : Int) - 1 := by omega
  have hi2 : (s.size : Int) - 1 < (s.size : Int) := by omega
  have HZ : isName s = (namesTo s s.size && (chr s 0 != 45) && (chr s (s.size - 1) != 45)) := by unfold isName; simp [hp, show s.size ≤ 16 by omega]
  rw [← Mem.chr_get s 0 hp, ← Mem.chr_get s (s.size - 1) (by omega)] at HZ
  obtain ⟨a, ha⟩ : ∃ a, s[0].toNat = a := ⟨_, rfl⟩
  obtain ⟨b, hb⟩ : ∃ b, s[s.size - 1].toNat = b := ⟨_, rfl⟩
  have hA : ((s[0].toNat : Nat) : Int) = (a : Int) := by omega
  have hB : ((s[s.size - 1].toNat : Nat) : Int) = (b : Int) := by omega
  rw [ha, hb] at HZ
  by_cases e1 : a = 45
  · have E1 : ((a : Int) == 45) = true := beq_iff_eq.2 (by omega)
    have HR := Lib.hid (show isName s = false by rw [HZ, e1]; simp)
    clear HZ e1 ha hb
    go_enter Tryd.func12, Tryd.ntmps12
    go_wp2
    go_ret
    exact ⟨by rw [HR.out]; rfl, rfl⟩
  have E1 : ((a : Int) == 45) = false := beq_false_of_ne (by omega)
  by_cases e2 : b = 45
  · have E2 : ((b : Int) == 45) = true := beq_iff_eq.2 (by omega)
    have HR := Lib.hid (show isName s = false by rw [HZ, e2]; simp)
    clear HZ e1 e2 ha hb
    go_enter Tryd.func12, Tryd.ntmps12
    go_wp2
    go_ret
    exact ⟨by rw [HR.out]; rfl, rfl⟩
  have E2 : ((b : Int) == 45) = false := beq_false_of_ne (by omega)
  have HYES := Lib.hid (show namesTo s s.size = true → isName s = true from fun h => by rw [HZ, h]; simp [e1, e2])
  clear HZ e1 e2 ha hb
  go_enter Tryd.func12, Tryd.ntmps12
  go_wp2
  clear E1 E2 hA hB hi0 hi1 hi2 d1 z0
  go_loopw [3] (fun i wr => ∃ k : Nat, k ≤ s.size ∧ i = .int .i64 k ∧ Hid (namesTo s k = true) ∧ wr = w)
    (fun i _ => s.size - (intOf i).toNat)
  case atStart => exact ⟨0, Nat.zero_le _, rfl, rfl, rfl⟩
  case round =>
    obtain ⟨k, hk, rfl, HD, hw⟩ := hrel
    have hw' := hw.symm
    subst hw'
    clear hw
    by_cases hlt : k < s.size
    · have hT : (decide ((k : Int) < (s.size : Int))) = true := decide_eq_true (by omega)
      obtain ⟨c, hc⟩ : ∃ c, s[k].toNat = c := ⟨_, rfl⟩
      have hcc : chr s k = c := by rw [← hc]; exact (Mem.chr_get s k hlt).symm
      have hL0 : ((s[k].toNat : Nat) : Int) = (c : Int) := by omega
      have HN : nameB c = true → Hid (namesTo s (k + 1) = true) := fun h => by
        show namesTo s (k + 1) = true
        rw [namesTo_step, HD.out, hcc, h]
        rfl
      have HNO : nameB c = false → Hid (isName s = false) := fun h => by
        show isName s = false
        unfold isName
        rw [names_no hlt (by rw [hcc]; exact h)]
        simp
      clear hcc
      by_cases h1 : 97 ≤ c <;> by_cases h2 : c ≤ 122 <;> by_cases h3 : 48 ≤ c <;> by_cases h4 : c ≤ 57 <;> by_cases h5 : c = 45
      all_goals
        first
        | omega
        | (have H1 : (decide ((97 : Int) ≤ (c : Int))) = decide (97 ≤ c) := by congr 1; exact propext (by omega)
           have H2 : (decide ((c : Int) ≤ 122)) = decide (c ≤ 122) := by congr 1; exact propext (by omega)
           have H3 : (decide ((48 : Int) ≤ (c : Int))) = decide (48 ≤ c) := by congr 1; exact propext (by omega)
           have H4 : (decide ((c : Int) ≤ 57)) = decide (c ≤ 57) := by congr 1; exact propext (by omega)
           have H5 : ((c : Int) != 45) = (c != 45) := by rw [Bool.eq_iff_iff, bne_iff_ne, bne_iff_ne]; omega
           have H6 : (c != 45) = !(decide (c = 45)) := by rw [Bool.eq_iff_iff]; simp
           rw [H6] at H5
           simp only [h1, h2, h3, h4, h5, decide_true, decide_false, Bool.not_true, Bool.not_false] at H1 H2 H3 H4 H5
           cases hn : nameB c
           · first
             | (exfalso; unfold nameB at hn; simp [h1, h2, h3, h4, h5] at hn; done)
             | (have HG := HNO hn
                clear HN HNO H6 hn
                go_wp2
                all_goals
                  go_ret
                  exact ⟨by rw [HG.out]; rfl, rfl⟩)
           · first
             | (exfalso; unfold nameB at hn; simp [h1, h2, h3, h4, h5] at hn; done)
             | (have HG := HN hn
                clear HN HNO H6 hn
                go_wp2
                all_goals
                  refine ⟨⟨k + 1, by omega, rfl, HG, trivial⟩, ?_⟩
                  show s.size - ((k : Int) + 1).toNat < s.size - (k : Int).toNat
                  omega))
    · obtain rfl : k = s.size := by omega
      have HR := Lib.hid (HYES.out HD.out)
      go_wp2
      go_ret
      exact ⟨by rw [HR.out]; rfl, rfl⟩

end Text
end Go.Proofs.YtdcpbojknondcaaDoor
