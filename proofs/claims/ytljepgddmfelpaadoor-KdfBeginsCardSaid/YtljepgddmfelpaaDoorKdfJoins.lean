/- 'aditlaw08.KdfJoins' returns true at every input and writes nothing that was there: the walk. The condition: the tables read as the program's text lays them. -/
import Derived.Test.YtljepgddmfelpaaDoorKdfAlive
import Derived.Test.YtljepgddmfelpaaDoorApart
import Derived.Test.YtljepgddmfelpaaDoorTree
namespace Go.Proofs.YtljepgddmfelpaaDoor
namespace Kdf
open Go.ChangeShapes Go.WideShapes Go.ChangeAt Go.RowKit
open Num Mem Words State Chacha Quiet Blake

theorem wp_catFrom {P : Program} {o : Oper} {a : Act} {K : Act → World → Prop} {Q : Exit → Act → World → Prop} {W w : World} {B k c : Nat} {A : Option Addr} {f g T : Nat → Nat} (s x : Operand) (t e : TypeId) (z : Value) (by_ : Nat)
    (ht : P.underlying t = some (.slice e)) (hinfo : (P.info? e).map (fun i => (i.zero, i.size, i.bytes)) = some (some z, 1, by_)) (hz : z.cells.size = 1)
    (ho : o.op = .call { callee := .builtin .append, args := #[s, x], argTypes := #[t, t] })
    (hs : a.eval s = .slice A k c) (own : Own w B e A k c f) (bel : Below B W w) (hB : B ≤ w.heap.size)
    (m cx : Nat) (A2 : Option Addr) (hx : a.eval x = .slice A2 m cx) (src : Src w A2 m cx g) (hk : (k + m) * by_ ≤ 140737488355328) (hk2 : k + m ≤ 140737488355328)
    (hT : ∀ i, i < k + m → T i = if i < k then f i else g (i - k))
    (h : ∀ A' c' w', Own w' B e A' (k + m) c' T → Below B W w' → B ≤ w'.heap.size → K (a.put o.dst (.slice A' (k + m) c')) w') :
    o.wp P a w K Q := by
  rcases src with ⟨rfl, rfl, rfl⟩ | ⟨ad, rfl, hy⟩
  · obtain ⟨i0, hi, _⟩ := info_parts hinfo
    have hrun := run_append_owned_none (P := P) (w := w) B t o.type e i0 1 ht hi (.slice A k c) k (byteCells f k) own
    unfold Oper.wp
    simp [execOp, ho, resolve, invoke, builtin, hs, hx, hrun, Result.andThen]
    exact h A c w (Own.congr own fun i hi => by rw [hT i (by omega), if_pos (by omega)]) bel hB
  · exact wp_cat s x t e z by_ ht hinfo hz ho hs own bel hB ad m cx hx (byteCells g m) (byteCells_length _ _) hy (by
      intro u hu
      simp [byteCells] at hu
      obtain ⟨i, _, rfl⟩ := hu
      rfl) hk hk2 fun A' c' w' h1 h2 h3 _ _ => h A' c' w' (by
      rw [byteCells_append, byteCells_congr (g := T) (fun i hi => (hT i hi).symm)] at h1
      exact h1) h2 h3
theorem Own.le_cap {w : World} {B t k c : Nat} {A : Option Addr} {f : Nat → Nat} (h : Own w B t A k c f) : k ≤ c := by
  rcases h.2 with ⟨e, h0⟩ | ⟨g, cap, cur, e, _, _, h1, _⟩
  · omega
  · injection e with _ _ e3
    omega
theorem byte_info : (Tryd.prog.info? 5).map (fun i => (i.zero, i.size, i.bytes)) = some (some (.int .u8 0), 1, 1) := by kernel_rfl
theorem row_src {w : World} {A : Option Addr} {n c : Nat} {zs : List Int} (h : IsRow .u8 w A n c zs) : ∃ f : Nat → Nat, (∀ i, f i < 256) ∧ Rd w A n f ∧ n ≤ c ∧ (A = none → n = 0 ∧ c = 0) := by
  obtain ⟨f, h1, h2, h3, _⟩ := rd_of_row h
  refine ⟨f, h1, h2, h3, fun e => ?_⟩
  rcases h with ⟨_, h4, h5, _⟩ | ⟨x, h4, _⟩
  · exact ⟨h4, h5⟩
  · rw [e] at h4
    cases h4

end Kdf
namespace KdfJoins
open Go.ChangeShapes Go.WideShapes Go.ChangeAt Go.RowKit
open Num Mem Words State Chacha Quiet Blake Kdf

set_option maxRecDepth 100000 in
set_option maxHeartbeats 2000000 in
theorem walk (a : Nat → Nat) (A2 : Option Addr) (n c2 : Nat) (zs : List Int) (w : World) (hL : Laid w) (ha : ∀ i, a i < 256) (h2 : IsRow .u8 w A2 n c2 zs) :
    Calls Tryd.prog 12 #[.agg (byteCells a 32).toArray, .slice A2 n c2] w fun e w' => e = .returned (.bool true) ∧ Below w.heap.size w w' := by
  obtain ⟨f, hf, hA2, hnc, hnil⟩ := row_src h2
  have HL := Lib.hid hL
  have HA2 := Lib.hid hA2
  have HNIL := Lib.hid hnil
  have HZ32 := Lib.hid (show ∀ f, (byteCells f 32).toArray.size = 32 from fun f => by rw [List.size_toArray, byteCells_length])
  have HK := Lib.hid ha
  have HF := Lib.hid hf
  clear hL hA2 hnil h2 ha hf
  by_cases hn : 2000 < n
  · have d : decide ((2000 : Int) < (n : Int)) = true := decide_eq_true (by omega)
    go_enter Tryd.func12, Tryd.ntmps12
    go_upto_region 1 with fail
    refine cut_world (fun X => Laid X ∧ Below w.heap.size w X) ⟨laid_alloc HL.out _, below_alloc (Below.refl _ _) _⟩ ?_
    rintro W ⟨ql, qb⟩
    have QL := Lib.hid ql
    have QB := Lib.hid qb
    clear ql qb
    go_wp2_with fail
    refine (Kdf.alive_any _ QL.out).mono ?_
    rintro e w1 ⟨rfl, hb⟩
    have HB := Lib.hid (below_trans QB.out hb)
    clear hb
    go_wp2_with fail
    go_ret
    exact ⟨rfl, HB.out⟩
  have d : decide ((2000 : Int) < (n : Int)) = false := decide_eq_false (by omega)
  obtain ⟨J, hJ⟩ : ∃ J, sum32 (catF a 32 f) (32 + n) = J := ⟨_, rfl⟩
  have lJ : ∀ i, J i < 256 := fun i => by rw [← hJ]; exact sum32_lt _ _ _
  have CJ := Lib.hid (join_any a HK.out A2 n c2 f HF.out (by omega) hnc)
  have CS := Lib.hid (fun A c hc => sum32_any A (32 + n) c (catF a 32 f) (fun i => by unfold catF; split; exact HK.out i; exact HF.out _) (by omega) hc)
  have hS32 : digest 32 (fun _ => 0) 0 (catF a 32 f) (32 + n) = sum32 (catF a 32 f) (32 + n) := rfl
  rw [hS32] at CS
  rw [hJ] at CJ CS
  have EJ := Lib.hid (run_eql_arr (P := Tryd.prog) 27 5 32 Tryd.underlying27 Tryd.underlying5 size_u8 J J lJ lJ true (by simp))
  have HT1 := Lib.hid (show ∀ i, i < 0 + 32 → a i = if i < 0 then (fun _ => 0) i else a (i - 0) from fun i _ => by rw [if_neg (by omega), Nat.sub_zero])
  have HT2 := Lib.hid (show ∀ i, i < 0 + 32 + n → catF a 32 f i = if i < 0 + 32 then a i else f (i - (0 + 32)) from fun i _ => by unfold catF; rfl)
  clear hJ lJ hS32
  go_enter Tryd.func12, Tryd.ntmps12
  go_upto_region 1 with fail
  refine cut_world (fun X => Whole X w.heap.size 27 (byteCells a 32).toArray ∧ Laid X ∧ Below w.heap.size w X) ⟨whole_new _ _ rfl, laid_alloc HL.out _, below_alloc (Below.refl _ _) _⟩ ?_
  rintro W ⟨q1, ql, qb⟩
  have Q1 := Lib.hid q1
  have QL := Lib.hid ql
  have QB := Lib.hid qb
  have hl1 := q1.lt
  clear q1 ql qb
  generalize hB : w.heap.size = B at Q1 QB hl1 ⊢
  have QA := Lib.hid (HA2.out.below QB.out (Nat.le_of_eq hB))
  go_wp2_with fail
  refine region_drew (fun X => Below W.heap.size W X) (by kernel_rfl) (below_drewN (Below.refl _ _) 1) ?_
  intro hS
  refine alone 0 rfl (by kernel_rfl) (by rfl) ?_
  intro K hK
  go_simp
  refine (Kdf.alive_any _ (laid_below QL.out hS)).mono ?_
  rintro e v1 ⟨rfl, hb⟩
  go_simp
  have hS := below_trans (below_drewN (Below.refl _ W) 1) hb
  refine hK.out _ _ hS ?_
  clear hK K hb
  try simp only [Act.put, List.setIfInBounds_toArray, List.set_cons_zero, List.set_cons_succ]
  refine take 1 _ rfl (by kernel_rfl) (by kernel_rfl) (by kernel_rfl) (fun _ _ _ h => h) (by rfl) hS (by intro w _; go_simp; try with_reducible rfl) ?_
  try simp only [Act.put, List.setIfInBounds_toArray, List.set_cons_zero, List.set_cons_succ]
  refine take 2 _ rfl (by kernel_rfl) (by kernel_rfl) (by kernel_rfl) (fun _ _ _ h => h) (by rfl) hS (fun w hw => run_load_op 27 (.tmp 2) rfl (B) rfl (Q1.out.below hw hl1) rfl rfl (by rw [HZ32.out]; kernel_rfl)) ?_
  try simp only [Act.put, List.setIfInBounds_toArray, List.set_cons_zero, List.set_cons_succ]
  refine take 3 _ rfl (by kernel_rfl) (by kernel_rfl) (by kernel_rfl) (fun _ _ _ h => h) (by rfl) hS (by intro w _; go_simp; try with_reducible rfl) ?_
  try simp only [Act.put, List.setIfInBounds_toArray, List.set_cons_zero, List.set_cons_succ]
  refine take 6 _ rfl (by kernel_rfl) (by kernel_rfl) (by kernel_rfl) (fun _ _ _ h => h) (by rfl) hS (by intro w _; go_simp; try with_reducible rfl) ?_
  try simp only [Act.put, List.setIfInBounds_toArray, List.set_cons_zero, List.set_cons_succ]
  refine take 8 _ rfl (by kernel_rfl) (by kernel_rfl) (by kernel_rfl) (fun _ _ _ h => h) (by rfl) hS (by intro w _; go_simp; try with_reducible rfl) ?_
  try simp only [Act.put, List.setIfInBounds_toArray, List.set_cons_zero, List.set_cons_succ]
  refine ready_two 4 5 rfl rfl (by kernel_rfl) (by rfl) (by rfl) ?_ ?_
  · intro K hK
    go_simp
    refine (CJ.out _ (laid_below QL.out hS) (QA.out.below hS (Nat.le_refl _))).mono ?_
    rintro e v2 ⟨rfl, hb⟩
    go_simp
    replace hS := below_trans hS hb
    refine hK.out _ _ hS ?_
    clear hK K hb
    try simp only [Act.put, List.setIfInBounds_toArray, List.set_cons_zero, List.set_cons_succ]
    refine alone 5 rfl (by kernel_rfl) (by rfl) ?_
    intro K hK
    go_simp
    have hO : Own (v2.alloc (.cells #[] 5)) W.heap.size 5 (some ⟨v2.heap.size, 0, none⟩) 0 0 (fun _ => 0) := World.ownsRow_lit v2 #[] 0 hS.size (by decide) rfl
    replace hS := hS.alloc hS.size (.cells #[] 5)
    refine hK.out _ _ hS ?_
    clear hK K
    try simp only [Act.put, List.setIfInBounds_toArray, List.set_cons_zero, List.set_cons_succ]
    have HO := Lib.hid hO
    clear hO
    refine alone 7 rfl (by kernel_rfl) (by rfl) ?_
    intro K hK
    refine wp_catFrom (W := W) (.tmp 14) (.tmp 15) 22 5 (.int .u8 0) 1 rfl byte_info rfl rfl rfl HO.out hS hS.size 32 32 (some ⟨B, 0, none⟩) rfl (src_rd (Rd.of_whole (Q1.out.below hS hl1)) (fun h => by cases h)) (by omega) (by omega) HT1.out ?_
    intro A3 c3 v4 hO hb4 _
    have HO3 := Lib.hid hO
    replace hS := hb4
    refine hK.out _ _ hS ?_
    clear hK K hb4 hO HO
    try simp only [Act.put, List.setIfInBounds_toArray, List.set_cons_zero, List.set_cons_succ]
    refine alone 9 rfl (by kernel_rfl) (by rfl) ?_
    intro K hK
    refine wp_catFrom (W := W) (.tmp 16) (.tmp 17) 22 5 (.int .u8 0) 1 rfl byte_info rfl rfl rfl HO3.out hS hS.size n c2 A2 rfl (src_rd (QA.out.below hS (Nat.le_refl _)) HNIL.out) (by omega) (by omega) HT2.out ?_
    intro A4 c4 v5 hO hb5 _
    have HO4 := Lib.hid hO
    replace hS := hb5
    refine hK.out _ _ hS ?_
    clear hK K hb5 hO HO3
    try simp only [Act.put, List.setIfInBounds_toArray, List.set_cons_zero, List.set_cons_succ]
    refine alone 10 rfl (by kernel_rfl) (by rfl) ?_
    intro K hK
    go_simp
    rw [show 0 + 32 + n = 32 + n by omega] at HO4 ⊢
    refine (CS.out A4 c4 (Own.le_cap HO4.out) _ (laid_below QL.out hS) HO4.out.rd).mono ?_
    rintro e v6 ⟨rfl, hb⟩
    go_simp
    replace hS := below_trans hS hb
    refine hK.out _ _ hS ?_
    clear hK K hb
    try simp only [Act.put, List.setIfInBounds_toArray, List.set_cons_zero, List.set_cons_succ]
    refine take 11 _ rfl (by kernel_rfl) (by kernel_rfl) (by kernel_rfl) (fun _ _ _ h => h) (by rfl) hS (by intro w _; go_simp; simp only [EJ.out, Result.andThen_ok]; try with_reducible rfl) ?_
    try simp only [Act.put, List.setIfInBounds_toArray, List.set_cons_zero, List.set_cons_succ]
    refine take 12 _ rfl (by kernel_rfl) (by kernel_rfl) (by kernel_rfl) (fun _ _ _ h => h) (by rfl) hS (by intro w _; go_simp; try with_reducible rfl) ?_
    try simp only [Act.put, List.setIfInBounds_toArray, List.set_cons_zero, List.set_cons_succ]
    refine take 13 _ rfl (by kernel_rfl) (by kernel_rfl) (by kernel_rfl) (fun _ _ _ h => h) (by rfl) hS (by intro w _; go_simp; try with_reducible rfl) ?_
    try simp only [Act.put, List.setIfInBounds_toArray, List.set_cons_zero, List.set_cons_succ]

    refine region_end (by kernel_rfl) ?_
    have HB := Lib.hid (show Below B w v6 from QB.out.trans (hS.mono (by omega)))
    go_wp2_with fail
    go_ret
    exact ⟨rfl, by rw [hB]; exact HB.out⟩
  · intro K hK
    go_simp
    have hO : Own (v1.alloc (.cells #[] 5)) W.heap.size 5 (some ⟨v1.heap.size, 0, none⟩) 0 0 (fun _ => 0) := World.ownsRow_lit v1 #[] 0 hS.size (by decide) rfl
    replace hS := hS.alloc hS.size (.cells #[] 5)
    refine hK.out _ _ hS ?_
    clear hK K
    try simp only [Act.put, List.setIfInBounds_toArray, List.set_cons_zero, List.set_cons_succ]
    refine alone 4 rfl (by kernel_rfl) (by rfl) ?_
    intro K hK
    go_simp
    refine (CJ.out _ (laid_below QL.out hS) (QA.out.below hS (Nat.le_refl _))).mono ?_
    rintro e v2 ⟨rfl, hb⟩
    go_simp
    replace hO := hO.below hb (Nat.le_refl _)
    replace hS := below_trans hS hb
    refine hK.out _ _ hS ?_
    clear hK K hb
    try simp only [Act.put, List.setIfInBounds_toArray, List.set_cons_zero, List.set_cons_succ]
    have HO := Lib.hid hO
    clear hO
    refine alone 7 rfl (by kernel_rfl) (by rfl) ?_
    intro K hK
    refine wp_catFrom (W := W) (.tmp 14) (.tmp 15) 22 5 (.int .u8 0) 1 rfl byte_info rfl rfl rfl HO.out hS hS.size 32 32 (some ⟨B, 0, none⟩) rfl (src_rd (Rd.of_whole (Q1.out.below hS hl1)) (fun h => by cases h)) (by omega) (by omega) HT1.out ?_
    intro A3 c3 v4 hO hb4 _
    have HO3 := Lib.hid hO
    replace hS := hb4
    refine hK.out _ _ hS ?_
    clear hK K hb4 hO HO
    try simp only [Act.put, List.setIfInBounds_toArray, List.set_cons_zero, List.set_cons_succ]
    refine alone 9 rfl (by kernel_rfl) (by rfl) ?_
    intro K hK
    refine wp_catFrom (W := W) (.tmp 16) (.tmp 17) 22 5 (.int .u8 0) 1 rfl byte_info rfl rfl rfl HO3.out hS hS.size n c2 A2 rfl (src_rd (QA.out.below hS (Nat.le_refl _)) HNIL.out) (by omega) (by omega) HT2.out ?_
    intro A4 c4 v5 hO hb5 _
    have HO4 := Lib.hid hO
    replace hS := hb5
    refine hK.out _ _ hS ?_
    clear hK K hb5 hO HO3
    try simp only [Act.put, List.setIfInBounds_toArray, List.set_cons_zero, List.set_cons_succ]
    refine alone 10 rfl (by kernel_rfl) (by rfl) ?_
    intro K hK
    go_simp
    rw [show 0 + 32 + n = 32 + n by omega] at HO4 ⊢
    refine (CS.out A4 c4 (Own.le_cap HO4.out) _ (laid_below QL.out hS) HO4.out.rd).mono ?_
    rintro e v6 ⟨rfl, hb⟩
    go_simp
    replace hS := below_trans hS hb
    refine hK.out _ _ hS ?_
    clear hK K hb
    try simp only [Act.put, List.setIfInBounds_toArray, List.set_cons_zero, List.set_cons_succ]
    refine take 11 _ rfl (by kernel_rfl) (by kernel_rfl) (by kernel_rfl) (fun _ _ _ h => h) (by rfl) hS (by intro w _; go_simp; simp only [EJ.out, Result.andThen_ok]; try with_reducible rfl) ?_
    try simp only [Act.put, List.setIfInBounds_toArray, List.set_cons_zero, List.set_cons_succ]
    refine take 12 _ rfl (by kernel_rfl) (by kernel_rfl) (by kernel_rfl) (fun _ _ _ h => h) (by rfl) hS (by intro w _; go_simp; try with_reducible rfl) ?_
    try simp only [Act.put, List.setIfInBounds_toArray, List.set_cons_zero, List.set_cons_succ]
    refine take 13 _ rfl (by kernel_rfl) (by kernel_rfl) (by kernel_rfl) (fun _ _ _ h => h) (by rfl) hS (by intro w _; go_simp; try with_reducible rfl) ?_
    try simp only [Act.put, List.setIfInBounds_toArray, List.set_cons_zero, List.set_cons_succ]

    refine region_end (by kernel_rfl) ?_
    have HB := Lib.hid (show Below B w v6 from QB.out.trans (hS.mono (by omega)))
    go_wp2_with fail
    go_ret
    exact ⟨rfl, by rw [hB]; exact HB.out⟩

end KdfJoins
end Go.Proofs.YtljepgddmfelpaaDoor
