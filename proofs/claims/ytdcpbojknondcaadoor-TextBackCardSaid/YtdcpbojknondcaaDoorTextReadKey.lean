/- ReadKey of package text: a word's key. -/
import Derived.Test.YtdcpbojknondcaaDoorTextJoin
import Derived.Test.YtdcpbojknondcaaDoorTextSign
namespace Go.Proofs.YtdcpbojknondcaaDoor
namespace Text
open Go.ChangeShapes Go.WideShapes Go.ChangeAt Go.RowKit
open Num Mem Words Chacha Aead

theorem wpList_built0 {P : Program} {ops : Array Oper} {rest : List Oper} {o : Oper} {a : Act} {w : World} {Q : Exit → Act → World → Prop} (hg : o.guard = none) (t : TypeId) (ho : o.op = .build t #[])
    (vs : Array Value) (hb : P.built t [] = some vs) (h : wpList P ops Q rest (a.put o.dst (.agg vs)) w) : wpList P ops Q (o :: rest) a w := by
  have e : P.built t ((#[] : Array (Nat × Operand)).map fun (i, x) => (i, a.eval x)).toList = some vs := by simpa using hb
  refine wpList_build hg t #[] ho (by rw [e]; rfl) ?_
  rw [e]
  exact h
theorem key_zero : Tryd.prog.built 31 [] = some (byteCells (fun _ => 0) 32).toArray := by kernel_rfl

/-- do the first k bytes stand for numbers? -/
def sgTo (s : ByteArray) (k : Nat) : Bool := (List.range k).all fun i => decide (sv (chr s i) < 64)
theorem sg_at {s : ByteArray} {k n : Nat} (h : sgTo s n = true) (hk : k < n) : sv (chr s k) < 64 := by
  unfold sgTo at h
  rw [List.all_eq_true] at h
  simpa using h k (List.mem_range.2 hk)
theorem sg_succ {s : ByteArray} {k : Nat} (h : sgTo s k = true) (h' : sv (chr s k) < 64) : sgTo s (k + 1) = true := by
  unfold sgTo
  rw [List.range_succ, List.all_append, show (List.range k).all _ = true from h]
  simp [h']
theorem sg_no {s : ByteArray} {k n : Nat} (hk : k < n) (h' : ¬ sv (chr s k) < 64) : sgTo s n = false := by
  cases e : sgTo s n with
  | false => rfl
  | true => exact absurd (sg_at e hk) h'
/-- the numbers of a word's signs -/
def numsTo (s : ByteArray) (k i : Nat) : Nat := if i < k then (if sv (chr s i) < 64 then sv (chr s i) else 0) else 0
theorem nums_lt (s : ByteArray) (k i : Nat) : numsTo s k i < 64 := by
  unfold numsTo
  (repeat' split) <;> omega
/-- what ReadKey answers -/
def rkE (s : ByteArray) : Nat := if s.size ≠ 44 then 3 else if chr s 43 ≠ 61 then 11 else if sgTo s 43 = false then 11 else if sv (chr s 42) % 4 ≠ 0 then 3 else 0
def rkB (s : ByteArray) (i : Nat) : Nat := if rkE s = 0 then jB (numsTo s 43) i else 0
theorem rk_no {s : ByteArray} {c : Nat} (h : rkE s = c) (hc : c ≠ 0) : byteCells (rkB s) 32 = byteCells (fun _ => 0) 32 ∧ rkE s = c := by
  refine ⟨byteCells_congr fun i _ => ?_, h⟩
  unfold rkB
  rw [if_neg (by omega)]
theorem and_three (v : Nat) (hv : v < 64) : bits .and .u8 (v : Int) 3 = ((v % 4 : Nat) : Int) := by
  have : ∀ x : Fin 64, bits .and .u8 ((x.val : Nat) : Int) 3 = ((x.val % 4 : Nat) : Int) := by decide
  exact this ⟨v, hv⟩

set_option maxRecDepth 100000 in
set_option maxHeartbeats 4000000 in
theorem readKey_any (s : ByteArray) (w : World) : Calls Tryd.prog 13 #[.string s] w fun e w' => e = .returned (.tuple #[.agg (byteCells (rkB s) 32).toArray, .int .i64 (rkE s : Nat)]) ∧ Below w.heap.size w w' := by
  obtain ⟨Z, hZ⟩ : ∃ Z, byteCells (fun _ => 0) 32 = Z := ⟨_, rfl⟩
  have HZE := Lib.hid hZ
  have HZL := Lib.hid (show Z.length = 32 by rw [← hZ, byteCells_length])
  have HZB := Lib.hid (show Tryd.prog.built 31 [] = some Z.toArray by rw [← hZ]; exact key_zero)
  have HZ1 := Lib.hid (show Z.toArray.all (·.oneCell') = true by rw [← hZ]; exact bytes_one _ _)
  have HNO := Lib.hid (show ∀ c, rkE s = c → c ≠ 0 → byteCells (rkB s) 32 = byteCells (fun _ => 0) 32 ∧ rkE s = c from fun c h hc => rk_no h hc)
  clear hZ
  go_enter Tryd.func13, Tryd.ntmps13
  go_upto_region 1 with fail
  refine cut_world (fun W => Whole W w.heap.size 31 Z.toArray ∧ Below w.heap.size w W) ⟨by rw [← HZE.out]; exact whole_new _ _ rfl, below_alloc (Below.refl _ _) _⟩ ?_
  rintro W ⟨k1, kb⟩
  have K1 := Lib.hid k1
  have KB := Lib.hid kb
  clear k1 kb
  generalize hB : w.heap.size = B at K1 KB ⊢
  have hBW : B < W.heap.size := K1.out.lt
  by_cases h1 : s.size = 44
  · have d1 : (((s.size : Nat) : Int) == 44) = true := beq_iff_eq.2 (by omega)
    have hix : 43 < s.size := by omega
    by_cases h2 : chr s 43 = 61
    · have c43 : ((s[43].toNat : Nat) : Int) = 61 := by rw [Mem.chr_get s 43 hix, h2]; rfl
      have d2 : (((s[43].toNat : Nat) : Int) == 61) = true := beq_iff_eq.2 c43
      have i1 : (43 : Int) < (s.size : Int) := by omega
      go_upto_region 6 with fail
      refine cut_world (fun X => Whole X B 31 Z.toArray ∧ Whole X W.heap.size 43 (byteCells (numsTo s 0) 44).toArray ∧ Below B w X) ⟨K1.out.alloc _, ?_, below_alloc' KB.out (Nat.le_of_lt hBW) _⟩ ?_
      · rw [byteCells_congr (g := fun _ => 0) (fun i _ => by unfold numsTo; rw [if_neg (by omega)])]
        exact whole_new _ _ rfl
      rintro X ⟨k1, k2, kb⟩
      have L1 := Lib.hid k1
      have L2 := Lib.hid k2
      have LB := Lib.hid kb
      clear k1 k2 kb K1 KB c43 d2
      generalize W.heap.size = g at L2 hBW ⊢
      go_wp2
      go_loopw [16] (fun i wr => ∃ k : Nat, k ≤ 43 ∧ i = .int .i64 k ∧ sgTo s k = true ∧ Whole wr B 31 Z.toArray ∧ Whole wr g 43 (byteCells (numsTo s k) 44).toArray ∧ Below B w wr)
        (fun i _ => 43 - (intOf i).toNat)
      case atStart => exact ⟨0, Nat.zero_le _, rfl, rfl, L1.out, L2.out, LB.out⟩
      case round =>
        clear L1 L2 LB
        obtain ⟨k, hk, rfl, hsg, q1, q2, qb⟩ := hrel
        have hcell := q2.cell k
        rw [List.getElem?_toArray, byteCells_get _ _ _ (by omega)] at hcell
        have hfree := q2.free k
        have Q1 := Lib.hid q1
        have Q2 := Lib.hid q2
        have QB := Lib.hid qb
        have HSG := Lib.hid hsg
        clear q1 q2 qb hsg
        by_cases hlt : k < 43
        · have hT : (decide ((k : Int) < 43)) = true := decide_eq_true (by omega)
          have hkz : (k : Int) < (s.size : Int) := by omega
          have hkn : k < s.size := by omega
          have C := Lib.hid (worth_any (s[k].toNat) (by have := s[k].toNat_lt; omega) wr)
          have hcv := Mem.chr_get s k hkn
          by_cases hv : sv (chr s k) < 64
          · rw [hcv, if_pos hv] at C
            rw [show decide (sv (chr s k) < 64) = true from decide_eq_true hv] at C
            rw [← hcv] at C
            have HV := Lib.hid hv
            obtain ⟨V, hV⟩ : ∃ V, sv (chr s k) = V := ⟨_, rfl⟩
            rw [hcv] at C
            rw [hV] at C
            have HVV := Lib.hid hV
            rw [← hcv] at C
            clear hV hv hcv
            go_wp2_with fail
            refine C.out.mono ?_
            rintro e w' ⟨rfl, rfl⟩
            go_wp2_with fail
            refine ⟨⟨k + 1, by omega, rfl, sg_succ HSG.out HV.out, Q1.out.far (by show B ≠ g; omega) _, ?_, QB.out.setCell (by show B ≤ g; omega) _⟩, ?_⟩
            · have h := Q2.out.put k (.int .u8 ((V : Nat) : Int))
              rw [byteCells_set, byteCells_congr (g := numsTo s (k + 1)) (fun i hi => ?_)] at h
              · exact h
              · unfold numsTo
                by_cases e : i = k
                · rw [if_pos e, if_pos (by omega), e, HVV.out, if_pos (by rw [← HVV.out]; exact HV.out)]
                · rw [if_neg e]
                  by_cases e2 : i < k
                  · simp only [if_pos e2, if_pos (show i < k + 1 by omega)]
                  · simp only [if_neg e2, if_neg (show ¬ i < k + 1 by omega)]
            · show 43 - ((k : Int) + 1).toNat < 43 - (k : Int).toNat
              omega
          · have HC : Hid (rkE s = 11) := Lib.hid (by
              unfold rkE
              rw [if_neg (by omega), if_neg (by omega), if_pos (sg_no (by omega) hv)])
            rw [hcv, show decide (sv (chr s k) < 64) = false from decide_eq_false hv, if_neg hv] at C
            rw [← hcv] at C
            clear hv hcv
            go_wp2_with fail
            refine C.out.mono ?_
            rintro e w' ⟨rfl, rfl⟩
            go_wp2_with (first | (refine wpList_built0 rfl 31 rfl Z.toArray HZB.out ?_) | (refine wpList_store_row rfl 31 (.tmp 2) (.tmp 28) rfl B Z.toArray rfl rfl 31 _ Q1.out (by rw [List.size_toArray, HZL.out]; kernel_rfl) rfl HZ1.out ?_))
            have hret := setRow_heap _ _ _ Z.toArray _ _ Q1.out
            refine bodyPost_ret (Poly.results_cell_tmp rfl _ _ B 31 Z _ rfl hret rfl rfl (by rw [HZL.out]; kernel_rfl)) rfl ?_
            exact ⟨by rw [(HNO.out _ HC.out (by decide)).1, (HNO.out _ HC.out (by decide)).2, HZE.out]; rfl, by rw [hB]; exact below_setRow QB.out (Nat.le_refl B) _⟩
        · obtain rfl : k = 43 := by omega
          clear hcell hfree
          have hcell := Q2.out.cell 42
          rw [List.getElem?_toArray, byteCells_get _ _ _ (by omega)] at hcell
          have hv42 := sg_at HSG.out (show 42 < 43 by omega)
          have hn42 : numsTo s 43 42 = sv (chr s 42) := by
            unfold numsTo
            rw [if_pos (by omega), if_pos hv42]
          rw [hn42] at hcell
          have hand := and_three _ hv42
          by_cases h4 : sv (chr s 42) % 4 = 0
          · have HC : Hid (rkE s = 0) := Lib.hid (by
              unfold rkE
              rw [if_neg (by omega), if_neg (by omega), if_neg (by rw [HSG.out]; decide), if_neg (by omega)])
            rw [h4] at hand
            obtain ⟨V, hV⟩ : ∃ V, sv (chr s 42) = V := ⟨_, rfl⟩
            rw [hV] at hand hcell
            clear hV h4 hn42 hv42
            have CJ := Lib.hid (join_any (numsTo s 43) (nums_lt s 43))
            obtain ⟨NL, hNL⟩ : ∃ NL, byteCells (numsTo s 43) 44 = NL := ⟨_, rfl⟩
            have HNL := Lib.hid (show NL.length = 44 by rw [← hNL, byteCells_length])
            rw [hNL] at Q2 CJ
            clear hNL
            obtain ⟨R, hR⟩ : ∃ R, byteCells (jB (numsTo s 43)) 32 = R := ⟨_, rfl⟩
            have HRL := Lib.hid (show R.length = 32 by rw [← hR, byteCells_length])
            have HR1 := Lib.hid (show R.toArray.all (·.oneCell') = true by rw [← hR]; exact bytes_one _ _)
            have HRE := Lib.hid (show byteCells (rkB s) 32 = R by
              rw [← hR]
              refine byteCells_congr fun i _ => ?_
              unfold rkB
              rw [if_pos HC.out])
            rw [hR] at CJ
            clear hR
            go_upto_region 16 with fail
            clear hcell hand
            go_wp2_with (first | (refine wpList_load_row rfl 43 (.tmp 4) rfl g rfl 43 NL.toArray (0, 0) _ Q2.out rfl rfl (by rw [List.size_toArray, HNL.out]; kernel_rfl) ?_))
            refine (CJ.out _).mono ?_
            rintro e w1 ⟨rfl, hb1⟩
            have Q1' := Lib.hid (Q1.out.below hb1 Q1.out.lt)
            have QB' := Lib.hid (QB.out.trans (hb1.mono (Nat.le_of_lt Q1.out.lt)))
            clear hb1 Q1 QB Q2
            go_wp2_with (first | (refine wpList_store_row rfl 31 (.tmp 2) (.tmp 39) rfl B R.toArray rfl rfl 31 _ Q1'.out (by rw [List.size_toArray, HRL.out]; kernel_rfl) (by rw [List.size_toArray, List.size_toArray, HRL.out, HZL.out]) HR1.out ?_))
            have hret := setRow_heap _ _ _ R.toArray _ _ Q1'.out
            refine bodyPost_ret (Poly.results_cell_tmp rfl _ _ B 31 R _ rfl hret rfl rfl (by rw [HRL.out]; kernel_rfl)) rfl ?_
            exact ⟨by rw [HRE.out, HC.out]; rfl, by rw [hB]; exact below_setRow QB'.out (Nat.le_refl B) _⟩
          · have HC : Hid (rkE s = 3) := Lib.hid (by
              unfold rkE
              rw [if_neg (by omega), if_neg (by omega), if_neg (by rw [HSG.out]; decide), if_pos (by omega)])
            have d4 : (((sv (chr s 42) % 4 : Nat) : Int) == 0) = false := beq_false_of_ne (by omega)
            obtain ⟨V, hV⟩ : ∃ V, sv (chr s 42) = V := ⟨_, rfl⟩
            obtain ⟨V4, hV4⟩ : ∃ V4, V % 4 = V4 := ⟨_, rfl⟩
            rw [hV, hV4] at hand
            rw [hV, hV4] at d4
            rw [hV] at hcell
            clear hV hV4 h4 hn42 hv42
            go_wp2_with (first | (refine wpList_built0 rfl 31 rfl Z.toArray HZB.out ?_) | (refine wpList_store_row rfl 31 (.tmp 2) (.tmp 37) rfl B Z.toArray rfl rfl 31 _ Q1.out (by rw [List.size_toArray, HZL.out]; kernel_rfl) rfl HZ1.out ?_))
            have hret := setRow_heap _ _ _ Z.toArray _ _ Q1.out
            refine bodyPost_ret (Poly.results_cell_tmp rfl _ _ B 31 Z _ rfl hret rfl rfl (by rw [HZL.out]; kernel_rfl)) rfl ?_
            exact ⟨by rw [(HNO.out _ HC.out (by decide)).1, (HNO.out _ HC.out (by decide)).2, HZE.out]; rfl, by rw [hB]; exact below_setRow QB.out (Nat.le_refl B) _⟩
    · have hne : ((s[43].toNat : Nat) : Int) ≠ 61 := by rw [Mem.chr_get s 43 hix]; omega
      have d2 : (((s[43].toNat : Nat) : Int) == 61) = false := beq_false_of_ne hne
      have i1 : (43 : Int) < (s.size : Int) := by omega
      have HC : Hid (rkE s = 11) := Lib.hid (by
        unfold rkE
        rw [if_neg (by omega), if_pos h2])
      clear hne
      go_wp2_with (first | (refine wpList_built0 rfl 31 rfl Z.toArray HZB.out ?_) | (refine wpList_store_row rfl 31 (.tmp 2) (.tmp 15) rfl B Z.toArray rfl rfl 31 _ K1.out (by rw [List.size_toArray, HZL.out]; kernel_rfl) rfl HZ1.out ?_))
      have hret := setRow_heap _ _ _ Z.toArray _ _ K1.out
      refine bodyPost_ret (Poly.results_cell_tmp rfl _ _ B 31 Z _ rfl hret rfl rfl (by rw [HZL.out]; kernel_rfl)) rfl ?_
      exact ⟨by rw [(HNO.out _ HC.out (by decide)).1, (HNO.out _ HC.out (by decide)).2, HZE.out]; rfl, by rw [hB]; exact below_setRow KB.out (Nat.le_refl B) _⟩
  · have d1 : (((s.size : Nat) : Int) == 44) = false := beq_false_of_ne (by omega)
    have HC : Hid (rkE s = 3) := Lib.hid (by
      unfold rkE
      rw [if_pos h1])
    go_wp2_with (first | (refine wpList_built0 rfl 31 rfl Z.toArray HZB.out ?_) | (refine wpList_store_row rfl 31 (.tmp 2) (.tmp 11) rfl B Z.toArray rfl rfl 31 _ K1.out (by rw [List.size_toArray, HZL.out]; kernel_rfl) rfl HZ1.out ?_))
    have hret := setRow_heap _ _ _ Z.toArray _ _ K1.out
    refine bodyPost_ret (Poly.results_cell_tmp rfl _ _ B 31 Z _ rfl hret rfl rfl (by rw [HZL.out]; kernel_rfl)) rfl ?_
    exact ⟨by rw [(HNO.out _ HC.out (by decide)).1, (HNO.out _ HC.out (by decide)).2, HZE.out]; rfl, by rw [hB]; exact below_setRow KB.out (Nat.le_refl B) _⟩

end Text
end Go.Proofs.YtdcpbojknondcaaDoor
