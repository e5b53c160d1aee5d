/- 'Both' of the statements of layer 20. -/
import Derived.Test.YtcncdejdpcelpaaPairAlive
namespace Go.Proofs.Ytcncdejdpcelpaa
namespace Pr
open Go.ChangeShapes Go.WideShapes Go.ChangeAt Go.RowKit
open Num Mem Words Chacha Aead Poly Ops Quiet WinT Win

/-- blocks that lie whole, above a base: number, type, cells -/
def Lay (w : World) (B : Nat) (bs : List (Nat × TypeId × List Value)) (X : World) : Prop := Below B w X ∧ B ≤ X.heap.size ∧ ∀ b ∈ bs, Whole X b.1 b.2.1 b.2.2.toArray
section
variable {w X Y : World} {B : Nat} {bs : List (Nat × TypeId × List Value)}
theorem Lay.below (h : Lay w B bs X) (hb : Below X.heap.size X Y) : Lay w B bs Y :=
  ⟨h.1.trans (hb.mono h.2.1), Nat.le_trans h.2.1 hb.size, fun b m => (h.2.2 b m).below hb (h.2.2 b m).lt⟩
theorem Lay.new (h : Lay w B bs X) (t : TypeId) (l : List Value) : Lay w B ((X.heap.size, t, l) :: bs) (X.alloc (.cells l.toArray t)) :=
  ⟨h.1.alloc h.2.1 _, by have := Below.size (below_alloc (Below.refl _ X) (.cells l.toArray t)); exact Nat.le_trans h.2.1 this, fun b m => by
    rcases List.mem_cons.1 m with rfl | m
    · exact Whole.new _ _ _
    · exact (h.2.2 b m).alloc _⟩
theorem Lay.set {g : Nat} {t : TypeId} {l : List Value} (h : Lay w B ((g, t, l) :: bs) X) (hg : B ≤ g) (hne : ∀ b ∈ bs, b.1 ≠ g) (l' : List Value) : Lay w B ((g, t, l') :: bs) (X.setRow g l'.toArray) :=
  ⟨below_setRow h.1 hg _, by have e : (X.setRow g l'.toArray).heap.size = X.heap.size := by simp [World.setRow]
                             rw [e]; exact h.2.1, fun b m => by
    rcases List.mem_cons.1 m with rfl | m
    · exact setRow_heap _ _ _ _ _ _ (h.2.2 _ List.mem_cons_self)
    · exact Whole.farRow (h.2.2 b (List.mem_cons_of_mem _ m)) (hne b m) _⟩
theorem Lay.perm {cs : List (Nat × TypeId × List Value)} (h : Lay w B bs X) (hs : ∀ b ∈ cs, b ∈ bs) : Lay w B cs X := ⟨h.1, h.2.1, fun b m => h.2.2 b (hs b m)⟩
theorem Lay.cons (h : Lay w B bs X) {g : Nat} {t : TypeId} {l : List Value} (hw : Whole X g t l.toArray) : Lay w B ((g, t, l) :: bs) X := ⟨h.1, h.2.1, fun b m => by
  rcases List.mem_cons.1 m with rfl | m
  · exact hw
  · exact h.2.2 b m⟩
/-- a new variable that takes a value at once -/
theorem Lay.var (h : Lay w B bs X) (t : TypeId) (l l' : List Value) : Lay w B ((X.heap.size, t, l') :: bs) ((X.alloc (.cells l.toArray t)).setRow X.heap.size l'.toArray) :=
  (h.new t l).set h.2.1 (fun b m => Nat.ne_of_lt (h.2.2 b m).lt) l'
theorem two_new (h : Lay w B [] X) (t : TypeId) (l : List Value) : Lay w B [(X.heap.size + 1, t, l), (X.heap.size, t, l)] ((X.alloc (.cells l.toArray t)).alloc (.cells l.toArray t)) := by
  have h2 := (h.new t l).new t l
  have e : (X.alloc (.cells l.toArray t)).heap.size = X.heap.size + 1 := by simp
  rw [e] at h2
  exact h2
theorem Lay.drew (h : Lay w B bs X) : Lay w B bs X.drew := h.below (below_drewN (Below.refl _ _) 1)
end

set_option maxRecDepth 100000 in
set_option maxHeartbeats 4000000 in
theorem both_any (w : World) : Calls Try.prog 10 #[] w fun e w' => e = .returned (.tuple #[pairV pa, pairV pb]) ∧ Below w.heap.size w w' := by
  have HNA := Lib.hid (fun w => new_ok (oneF 1) (oneF 2) 3 4 true 0 rfl w)
  have HNB := Lib.hid (fun w => new_ok (oneF 2) (oneF 1) 4 3 false 0 rfl w)
  have HK1 := Lib.hid key1
  have HK2 := Lib.hid key2
  have HKA := Lib.hid (keys5 (oneF 1) (oneF 2) 3 4 true)
  have HKB := Lib.hid (keys4 (oneF 2) (oneF 1) 4 3)
  unfold pairV at HNA HNB ⊢
  rw [show keysL (oneF 1) (oneF 2) 3 4 true = keysI (oneF 1) (oneF 2) 3 4 true from rfl] at HNA
  rw [show keysL (oneF 2) (oneF 1) 4 3 false = keysI (oneF 2) (oneF 1) 4 3 false from rfl] at HNB
  have HAS := Lib.hid (keysL_length (oneF 1) (oneF 2) 3 4 true)
  have HBS := Lib.hid (keysL_length (oneF 2) (oneF 1) 4 3 false)
  rw [show keysL (oneF 1) (oneF 2) 3 4 true = keysI (oneF 1) (oneF 2) 3 4 true from rfl] at HAS
  rw [show keysL (oneF 2) (oneF 1) 4 3 false = keysI (oneF 2) (oneF 1) 4 3 false from rfl] at HBS
  have HA1 := Lib.hid (keys_one (oneF 1) (oneF 2) 3 4 true)
  have HB1 := Lib.hid (keys_one (oneF 2) (oneF 1) 4 3 false)
  obtain ⟨KA, hKA⟩ : ∃ K, keysI (oneF 1) (oneF 2) 3 4 true = K := ⟨_, rfl⟩
  obtain ⟨KB, hKB⟩ : ∃ K, keysI (oneF 2) (oneF 1) 4 3 false = K := ⟨_, rfl⟩
  rw [hKA] at HNA HKA HAS HA1
  rw [hKB] at HNB HKB HBS HB1
  obtain ⟨C1, hC1⟩ : ∃ C, (byteCells (oneF 1) 32).toArray = C := ⟨_, rfl⟩
  obtain ⟨C2, hC2⟩ : ∃ C, (byteCells (oneF 2) 32).toArray = C := ⟨_, rfl⟩
  rw [hC1] at HK1 HKA HKB
  rw [hC2] at HK2 HKA HKB
  have HPAS := Lib.hid (pairL_length pa)
  have HPBS := Lib.hid (pairL_length pb)
  have HPA1 := Lib.hid (pair_one pa)
  have HPB1 := Lib.hid (pair_one pb)
  rw [show newP (oneF 1) (oneF 2) 3 4 true 0 = pa from rfl] at HNA
  rw [show newP (oneF 2) (oneF 1) 4 3 false 0 = pb from rfl] at HNB
  obtain ⟨PA, hPA⟩ : ∃ P, pairL pa = P := ⟨_, rfl⟩
  obtain ⟨PB, hPB⟩ : ∃ P, pairL pb = P := ⟨_, rfl⟩
  rw [hPA] at HNA HPAS HPA1 ⊢
  rw [hPB] at HNB HPBS HPB1 ⊢
  obtain ⟨M, hM⟩ : ∃ M, pairL noP = M := ⟨_, rfl⟩
  have HMS := Lib.hid (show (pairL noP).length = 72 from pairL_length _)
  have HZ := Lib.hid zero_pair
  have HZK := Lib.hid zero_keys
  have HZS := Lib.hid (keysL_length (fun _ => 0) (fun _ => 0) 0 0 false)
  rw [hM] at HMS HZ
  obtain ⟨Z, hZ⟩ : ∃ Z, keysL (fun _ => 0) (fun _ => 0) 0 0 false = Z := ⟨_, rfl⟩
  rw [hZ] at HZK HZS
  clear hKA hKB hC1 hC2 hPA hPB hM hZ
  have hz := HZ.out
  go_enter Try.func10, Try.ntmps10
  go_upto_region 1 with fail
  clear hz
  have L0 : Lay w w.heap.size [] w := ⟨Below.refl _ _, Nat.le_refl _, fun _ h => by cases h⟩
  refine cut_world (fun X => Lay w w.heap.size [(w.heap.size + 1, 35, M), (w.heap.size, 35, M)] X) (two_new L0 _ _) ?_
  intro W1 hW
  clear L0
  generalize hB : w.heap.size = B at hW ⊢
  have HB := Lib.hid hB
  have HW := Lib.hid hW
  clear hB hW

  have hzk := HZK.out
  go_upto_region 2 with (first
    | (refine wpList_builtV rfl 23 [(0, .const (.int .u8 1))] rfl [(0, .int .u8 1)] rfl C1 HK1.out ?_)
    | (refine wpList_builtV rfl 23 [(0, .const (.int .u8 2))] rfl [(0, .int .u8 2)] rfl C2 HK2.out ?_)
    | (refine wpList_builtV rfl 28 [(0, .tmp 8), (1, .tmp 9), (2, .const (.int .u32 3)), (3, .const (.int .u32 4)), (4, .const (.bool true))] rfl [(0, .agg C1), (1, .agg C2), (2, .int .u32 3), (3, .int .u32 4), (4, .bool true)] rfl KA.toArray HKA.out ?_)
    | (refine wpList_store_row rfl 28 (.tmp 2) (.tmp 10) rfl W1.heap.size KA.toArray rfl rfl 28 _ (Whole.new _ _ _) (by rw [List.size_toArray, HAS.out]; kernel_rfl) (by simp [HAS.out, HZS.out]) HA1.out ?_))
  clear hzk
  have hlt := HW.out.2.2 _ List.mem_cons_self |>.lt
  have hmem := fun b m => (HW.out.2.2 b m).lt
  refine cut_world (fun X => Lay w B ((W1.heap.size, 28, KA) :: [(B + 1, 35, M), (B, 35, M)]) X) (((HW.out.new 28 Z).set HW.out.2.1 (fun b m => Nat.ne_of_lt (hmem b m)) KA)) ?_
  intro W2 hW
  have Hg1 := Lib.hid (fun b m => Nat.ne_of_lt (hmem b m))
  generalize W1.heap.size = g1 at hW Hg1 ⊢
  replace HW := Lib.hid hW
  clear hW hlt hmem
  have hzk := HZK.out
  go_upto_region 3 with (first
    | (refine wpList_builtV rfl 23 [(0, .const (.int .u8 1))] rfl [(0, .int .u8 1)] rfl C1 HK1.out ?_)
    | (refine wpList_builtV rfl 23 [(0, .const (.int .u8 2))] rfl [(0, .int .u8 2)] rfl C2 HK2.out ?_)
    | (refine wpList_builtV rfl 28 [(0, .tmp 11), (1, .tmp 12), (2, .const (.int .u32 4)), (3, .const (.int .u32 3))] rfl [(0, .agg C2), (1, .agg C1), (2, .int .u32 4), (3, .int .u32 3)] rfl KB.toArray HKB.out ?_)
    | (refine wpList_store_row rfl 28 (.tmp 3) (.tmp 13) rfl W2.heap.size KB.toArray rfl rfl 28 _ (Whole.new _ _ _) (by rw [List.size_toArray, HBS.out]; kernel_rfl) (by simp [HBS.out, HZS.out]) HB1.out ?_))
  clear hzk
  have hlt := HW.out.2.2 _ List.mem_cons_self |>.lt
  have hmem := fun b m => (HW.out.2.2 b m).lt
  refine cut_world (fun X => Lay w B ((W2.heap.size, 28, KB) :: [(g1, 28, KA), (B + 1, 35, M), (B, 35, M)]) X) (((HW.out.new 28 Z).set HW.out.2.1 (fun b m => Nat.ne_of_lt (hmem b m)) KB)) ?_
  intro W3 hW
  have Hg2 := Lib.hid (fun b m => Nat.ne_of_lt (hmem b m))
  generalize W2.heap.size = g2 at hW Hg2 ⊢
  replace HW := Lib.hid hW
  clear hW hlt hmem
  have hz := HZ.out
  go_upto_region 4 with (first
    | (refine Poly.wpList_load_row_if rfl 28 (.tmp 2) rfl g1 rfl 28 KA _ (HW.out.2.2 (g1, 28, KA) (by simp)) rfl rfl (by rw [HAS.out]; kernel_rfl) ?_)
    | (go_at_call 9; refine (HNA.out _).mono ?_; rintro e V1 ⟨rfl, hb1⟩; replace HW := Lib.hid (HW.out.below hb1); clear hb1)
    | (refine wpList_store_row rfl 35 (.tmp 4) (.tmp 17) rfl V1.heap.size PA.toArray rfl rfl 35 _ (Whole.new _ _ _) (by rw [List.size_toArray, HPAS.out]; kernel_rfl) (by simp [HPAS.out, HMS.out]) HPA1.out ?_))
  clear hz
  have hmem := fun b m => (HW.out.2.2 b m).lt
  refine cut_world (fun X => Lay w B ((V1.heap.size, 35, PA) :: [(g2, 28, KB), (g1, 28, KA), (B + 1, 35, M), (B, 35, M)]) X) (((HW.out.new 35 M).set HW.out.2.1 (fun b m => Nat.ne_of_lt (hmem b m)) PA)) ?_
  intro W4 hW
  have Hg3 := Lib.hid (show B + 1 < V1.heap.size from hmem (B + 1, 35, M) (by simp))
  generalize V1.heap.size = g3 at hW Hg3 ⊢
  replace HW := Lib.hid hW
  clear hW hmem
  have hz := HZ.out
  go_upto_region 5 with (first
    | (refine Poly.wpList_load_row_if rfl 28 (.tmp 3) rfl g2 rfl 28 KB _ (HW.out.2.2 (g2, 28, KB) (by simp)) rfl rfl (by rw [HBS.out]; kernel_rfl) ?_)
    | (go_at_call 9; refine (HNB.out _).mono ?_; rintro e V1 ⟨rfl, hb1⟩; replace HW := Lib.hid (HW.out.below hb1); clear hb1)
    | (refine wpList_store_row rfl 35 (.tmp 6) (.tmp 22) rfl V1.heap.size PB.toArray rfl rfl 35 _ (Whole.new _ _ _) (by rw [List.size_toArray, HPBS.out]; kernel_rfl) (by simp [HPBS.out, HMS.out]) HPB1.out ?_))
  clear hz
  have hmem := fun b m => (HW.out.2.2 b m).lt
  refine cut_world (fun X => Lay w B ((V1.heap.size, 35, PB) :: [(g3, 35, PA), (g2, 28, KB), (g1, 28, KA), (B + 1, 35, M), (B, 35, M)]) X) (((HW.out.new 35 M).set HW.out.2.1 (fun b m => Nat.ne_of_lt (hmem b m)) PB)) ?_
  intro W5 hW
  have Hg4 := Lib.hid (show B + 1 < V1.heap.size from hmem (B + 1, 35, M) (by simp))
  generalize V1.heap.size = g4 at hW Hg4 ⊢
  replace HW := Lib.hid hW
  clear hW hmem
  replace HW := Lib.hid (HW.out.perm (cs := [(B, 35, M), (B + 1, 35, M), (g3, 35, PA), (g4, 35, PB)]) (by simp))
  have h3 := Hg3.out
  have h4 := Hg4.out
  refine region_drew (fun Z => Whole Z g3 35 PA.toArray ∧ Whole Z g4 35 PB.toArray) (by kernel_rfl) ⟨HW.out.2.2 (g3, 35, PA) (by simp), HW.out.2.2 (g4, 35, PB) (by simp)⟩ ?_
  intro hS
  have S1 := Lib.hid (HW.out.drew)
  generalize W5.drew = V at S1 hS ⊢
  refine take 0 (.agg PA.toArray) rfl (by kernel_rfl) (by kernel_rfl) (by kernel_rfl) (fun _ _ _ h => h) (by rfl) hS (fun V hV => run_mid_in 35 (.tmp 4) rfl g3 0 rfl PA _ (whole_range hV.1) rfl rfl (by rw [HPAS.out]; kernel_rfl)) ?_
  try simp only [Act.put, List.setIfInBounds_toArray, List.set_cons_zero, List.set_cons_succ]
  refine take 1 (.agg PB.toArray) rfl (by kernel_rfl) (by kernel_rfl) (by kernel_rfl) (fun _ _ _ h => h) (by rfl) hS (fun V hV => run_mid_in 35 (.tmp 6) rfl g4 0 rfl PB _ (whole_range hV.2) rfl rfl (by rw [HPBS.out]; kernel_rfl)) ?_
  try simp only [Act.put, List.setIfInBounds_toArray, List.set_cons_zero, List.set_cons_succ]
  refine alone 2 rfl (by kernel_rfl) (by rfl) ?_
  intro KK hKK
  refine wp_store_row 35 (.tmp 0) (.tmp 24) rfl (B) PA.toArray rfl rfl 35 _ (S1.out.2.2 (B, 35, M) (by simp)) (by rw [List.size_toArray, HPAS.out]; kernel_rfl) (by simp [HPAS.out, HMS.out]) HPA1.out ?_
  replace hS := And.intro (Whole.farRow hS.1 (show g3 ≠ B by omega) PA.toArray) (Whole.farRow hS.2 (show g4 ≠ B by omega) PA.toArray)
  replace S1 := Lib.hid (((S1.out.perm (cs := [(B, 35, M), (B + 1, 35, M)]) (by simp)).set (Nat.le_refl _) (by simp) PA).perm (cs := [(B + 1, 35, M), (B, 35, PA)]) (by simp))
  refine hKK.out _ _ hS ?_
  clear hKK KK
  try simp only [Act.put]
  refine alone 3 rfl (by kernel_rfl) (by rfl) ?_
  intro KK hKK
  refine wp_store_row 35 (.tmp 1) (.tmp 25) rfl (B + 1) PB.toArray rfl rfl 35 _ (S1.out.2.2 (B + 1, 35, M) (by simp)) (by rw [List.size_toArray, HPBS.out]; kernel_rfl) (by simp [HPBS.out, HMS.out]) HPB1.out ?_
  replace hS := And.intro (Whole.farRow hS.1 (show g3 ≠ B + 1 by omega) PB.toArray) (Whole.farRow hS.2 (show g4 ≠ B + 1 by omega) PB.toArray)
  replace S1 := Lib.hid (S1.out.set (Nat.le_succ _) (by simp) PB)
  refine hKK.out _ _ hS ?_
  clear hKK KK
  try simp only [Act.put]
  refine region_end (by kernel_rfl) ?_
  go_wp2_with fail
  refine bodyPost_ret (results_cell_cell rfl _ _ B 35 _ _ rfl (S1.out.2.2 (B, 35, PA) (by simp)) rfl rfl (by rw [HPAS.out]; kernel_rfl) (B + 1) 35 _ _ rfl (S1.out.2.2 (B + 1, 35, PB) (by simp)) rfl rfl (by rw [HPBS.out]; kernel_rfl)) rfl ?_
  exact ⟨rfl, by rw [HB.out]; exact S1.out.1⟩

end Pr
end Go.Proofs.Ytcncdejdpcelpaa
