/- The calls (Hash).Sum, Sum and Sum32 of package blake. -/
import Derived.Test.YtcoppcididemkaaDoorBlakeWrite
namespace Go.Proofs.YtcoppcididemkaaDoor
namespace Blake
open Go.ChangeShapes Go.WideShapes Go.ChangeAt Go.RowKit
open Num Mem Words State Chacha Quiet

/-- a new slice of n bytes is handed back, and no error -/
def Tells (w : World) (n : Nat) (F : Nat → Nat) (e : Ending) (w' : World) : Prop :=
  ∃ G, e = .returned (.tuple #[.slice (some ⟨G, 0, none⟩) n n, .int .i64 0]) ∧ Whole w' G 5 (byteCells F n).toArray ∧ w.heap.size ≤ G ∧ Below w.heap.size w w'

structure EndW (w : World) (E g size : Nat) (S : List Nat) (b : Nat → Nat) (filled count : Nat) (X : World) : Prop where
  copy : HashAt X E size S b filled count
  cell : X.cell? ⟨g, 0, none⟩ = some (.int .i64 size)
  laid : Laid X
  bel : Below E w X
theorem laid_below {w w' : World} (h : Laid w) (k : Below w.heap.size w w') : Laid w' := laid_of (g := w.heap.size) h h.size (grown_below k)

theorem zero_hash (w : World) : (zeroValue 41).run Tryd.prog w = .ok (.agg (hashCells 0 (List.replicate 8 0) (fun _ => 0) 0 0).toArray) w := by kernel_rfl
theorem hash_one (size : Nat) (S : List Nat) (b : Nat → Nat) (filled count : Nat) : (hashCells size S b filled count).toArray.all (·.oneCell') = true := by
  unfold hashCells
  have h1 := wcells_one S
  have h2 := bytes_one b 64
  rw [List.all_toArray] at h1 h2 ⊢
  rw [List.all_cons, List.all_append, List.all_append, h1, h2]
  rfl
theorem final_of (S0 : List Nat) (t : Nat → Nat) (N : Nat) : takeL (blocks S0 t (ahead N)) (numsOf (fun i => if i < N - 64 * ahead N then t (64 * ahead N + i) else 0) 0) N true = finalL S0 t N := by
  unfold finalL
  rw [numsOf_congr (f := fun i => if i < N - 64 * ahead N then t (64 * ahead N + i) else 0) (g := upTo t N) (p := 0) (q := 64 * ahead N) (fun i hi => by
    rw [Nat.zero_add]
    unfold upTo
    by_cases l : i < N - 64 * ahead N
    · rw [if_pos l, if_pos (by omega)]
    · rw [if_neg l, if_neg (by omega)])]

set_option maxRecDepth 100000 in
set_option maxHeartbeats 4000000 in
theorem hsum_any (g size N : Nat) (S0 : List Nat) (t : Nat → Nat) (hS : S0.length = 8) (hF0 : Fits S0) (ht : ∀ i, t i < 256) (hN : N ≤ 1000000000) (hs1 : 1 ≤ size) (hs2 : size ≤ 32) (w : World) (hL : Laid w) (hw : HashOf w g size S0 t N) :
    Calls Tryd.prog 8 #[.pointer (some ⟨g, 0, none⟩)] w (Tells w size (sumAt (finalL S0 t N))) := by
  have hah : ahead N = (N - 1) / 64 := rfl
  have HFin := Lib.hid (final_of S0 t N)
  have HFF := Lib.hid (finalL_fits hF0 t N (by omega))
  have HFL := Lib.hid (finalL_length S0 t N)
  have HBF := Lib.hid (blocks_fits hF0 t (ahead N) (by omega))
  have HBL := Lib.hid (blocks_length hS t (ahead N))
  have HBT := Lib.hid (show ∀ i, (fun i => if i < N - 64 * ahead N then t (64 * ahead N + i) else 0) i < 256 from fun i => by
    show (if i < N - 64 * ahead N then t (64 * ahead N + i) else 0) < 256
    split
    · exact ht _
    · omega)
  have HC := Lib.hid (show HashAt w g size (blocks S0 t (ahead N)) (fun i => if i < N - 64 * ahead N then t (64 * ahead N + i) else 0) (N - 64 * ahead N) N from hw)
  have HZ := Lib.hid (hash_count75 HBL.out size (fun i => if i < N - 64 * ahead N then t (64 * ahead N + i) else 0) (N - 64 * ahead N) N)
  have H1 := Lib.hid (show (hashCells size (blocks S0 t (ahead N)) (fun i => if i < N - 64 * ahead N then t (64 * ahead N + i) else 0) (N - 64 * ahead N) N).toArray.all (·.oneCell') = true from hash_one _ _ _ _ _)
  have HZ32 := Lib.hid (show ∀ f, (byteCells f 32).toArray.size = 32 from fun f => by rw [List.size_toArray, byteCells_length])
  have hc0 := HC.out.cell_size
  have hgl := HC.out.lt
  have HL := Lib.hid hL
  have hE2 := hL.size
  clear hS hF0 ht hw hah hL
  generalize finalL S0 t N = R at HFin HFF HFL ⊢
  generalize (fun i => if i < N - 64 * ahead N then t (64 * ahead N + i) else 0) = bt at HC HZ H1 HBT HFin
  generalize N - 64 * ahead N = fl at HC HZ H1
  generalize blocks S0 t (ahead N) = S at HC HZ H1 HBF HBL HFin
  obtain ⟨zs, hz, hzs⟩ : ∃ zs : Array Value, (zeroValue 41).run Tryd.prog w = .ok (.agg zs) w ∧ zs.size = 75 := ⟨_, zero_hash w, hash_count75 rfl 0 (fun _ => 0) 0 0⟩
  have HZS := Lib.hid hzs
  clear hzs
  go_enter Tryd.func8, Tryd.ntmps8
  go_wp2_with fail
  refine (none_any g size w hc0 false ⟨fun e => (by cases e), fun e => by omega⟩).mono ?_
  rintro e w1 ⟨rfl, rfl⟩
  go_upto_region 4 with (first | (refine wpList_load_row rfl 41 (.tmp 10) rfl g rfl 41 (hashCells size S bt fl N).toArray (0, 0) _ HC.out rfl rfl (by rw [HZ.out]; kernel_rfl) ?_) | (refine wpList_store_row rfl 41 (.tmp 4) (.tmp 11) rfl w.heap.size (hashCells size S bt fl N).toArray rfl rfl 41 _ (Whole.new _ _ zs) (by rw [HZ.out]; kernel_rfl) (by rw [HZ.out, HZS.out]) H1.out ?_))
  try simp only [Act.put]
  have hbE : Below w.heap.size w ((w.alloc (.cells zs 41)).setRow w.heap.size (hashCells size S bt fl N).toArray) := below_setRow (below_alloc (Below.refl _ _) _) (Nat.le_refl _) _
  refine cut_world (fun X => EndW w w.heap.size g size S bt fl N X) ⟨setRow_heap _ _ _ _ _ _ (Whole.new _ _ _), (hbE.cell (p := ⟨g, 0, none⟩) hgl).trans hc0, laid_below HL.out hbE, hbE⟩ ?_
  clear hz hbE hc0 HL HC H1 HZ HZS
  generalize hE : w.heap.size = E at hE2 hgl ⊢
  rintro W hr
  have HR := Lib.hid hr
  clear hr
  go_wp2_with fail
  refine (take_any E size fl N S bt true HBL.out HBF.out HBT.out (by omega) hE2 _ HR.out.laid HR.out.copy).mono ?_
  rintro e w3 ⟨rfl, h3, g3⟩
  rw [HFin.out] at h3
  have HT := Lib.hid h3
  have HC0 := Lib.hid ((grown_cell g3 g 0 (Nat.lt_trans hgl HR.out.copy.lt) (by omega)).trans HR.out.cell)
  have HB3 := Lib.hid (below_grown HR.out.bel g3 (Nat.le_refl _) (Nat.le_of_lt HR.out.copy.lt))
  have hlt3 := HR.out.copy.lt
  clear h3 g3 HR HFin HBF HBT
  go_wp2_with fail
  refine (bytes_any E size 0 N R (fun _ => 0) HFL.out HFF.out _ HT.out).mono ?_
  rintro e w4 ⟨rfl, hb4⟩
  have hlt4 := HT.out.lt
  have HC4 := Lib.hid ((hb4.cell (p := ⟨g, 0, none⟩) (show g < w3.heap.size by omega)).trans HC0.out)
  have HB4 := Lib.hid (HB3.out.trans (hb4.mono (by omega)))
  have hs4 := hb4.size
  clear hb4 HC0 HB3 HT
  generalize hFR : sumAt R = F at ⊢
  have HFR := Lib.hid hFR
  clear hFR
  go_upto_region 6 with (refine wpList_store_row rfl 34 (.tmp 5) (.tmp 13) rfl w4.heap.size (byteCells F 32).toArray rfl rfl 34 _ (Whole.new _ _ _) (by rw [HZ32.out]; kernel_rfl) (by rw [HZ32.out]; rfl) (bytes_one _ _) ?_)
  try simp only [Act.put]
  refine cut_world (fun X => Whole X w4.heap.size 34 (byteCells F 32).toArray ∧ X.cell? ⟨g, 0, none⟩ = some (.int .i64 size) ∧ Below E w X) ⟨setRow_heap _ _ _ _ _ _ (Whole.new _ _ _), ((below_setRow (below_alloc (Below.refl w4.heap.size w4) _) (Nat.le_refl _) _).cell (p := ⟨g, 0, none⟩) (show g < w4.heap.size by omega)).trans HC4.out, HB4.out.trans ((below_setRow (below_alloc (Below.refl w4.heap.size w4) _) (Nat.le_refl _) _).mono (by omega))⟩ ?_
  have hEG : E < w4.heap.size := by omega
  clear HC4 HB4 hs4
  generalize w4.heap.size = G5 at hEG ⊢
  rintro W6 ⟨q1, c0, qb⟩
  have Q1 := Lib.hid q1
  have QB := Lib.hid qb
  have hl6 := q1.lt
  clear q1 qb
  have hmk := made_bytes size (by omega) W6
  go_upto_region 7 with fail
  refine cut_world (fun X => Whole X G5 34 (byteCells F 32).toArray ∧ Whole X W6.heap.size 5 (byteCells (fun _ => 0) size).toArray ∧ Below E w X) ⟨Q1.out.alloc _, Whole.new _ _ _, QB.out.alloc (by omega) _⟩ ?_
  clear hmk c0 Q1 QB
  have hGn : E ≤ W6.heap.size := by omega
  generalize W6.heap.size = G at hl6 hGn ⊢
  rintro W7 ⟨q1, q2, qb⟩
  have HSRC := Lib.hid (rd_src (w := W7) (b := G5) (off := 0) (n := size) (f := F) (fun i hi => q1.bytes i (by omega)))
  have Q2 := Lib.hid q2
  have QB := Lib.hid qb
  clear q1 q2 qb
  go_upto_region 8 with (refine wpList_copy rfl (.tmp 19) (.tmp 20) 22 22 rfl 5 rfl (by kernel_rfl) G 0 size size ⟨G5, 0, none⟩ 32 32 rfl rfl (byteCells (fun _ => 0) size) 5 Q2.out (byteCells F size) (by rw [byteCells_length]; exact (Nat.min_eq_right (by omega)).symm) HSRC.out (by rw [byteCells_length, byteCells_length]; omega) (bytes_each _ _) ?_; intro w8 hg8 hb8)
  have q8 := hg8.out
  rw [byteCells_splice (fun _ => 0) F F size 0 size (by omega) (fun i hi => by rw [if_pos ⟨by omega, by omega⟩, Nat.sub_zero])] at q8
  have Q8 := Lib.hid (show Whole w8 G 5 (byteCells F size).toArray from q8)
  have QB8 := Lib.hid (below_grown QB.out hb8 (by omega) (Nat.le_trans hGn (Nat.le_of_lt Q2.out.lt)))
  clear hg8 hb8 q8 Q2 QB HSRC
  go_wp2_with fail
  go_ret2
  exact ⟨G, rfl, by rw [HFR.out]; exact Q8.out, by rw [hE]; exact hGn, by rw [hE]; exact QB8.out⟩

theorem withKey_behind (key : Nat → Nat) (k : Nat) (f0 f : Nat → Nat) : (fun i => if i < keyLen k then withKey key k f0 i else f (i - keyLen k)) = withKey key k f := by
  funext i
  unfold withKey keyLen
  by_cases h : k = 0
  · rw [if_pos h, if_pos h, if_neg (by omega), Nat.sub_zero, if_pos h]
  · rw [if_neg h, if_neg h, if_neg h]
    by_cases l : i < 64
    · rw [if_pos l, if_pos l, if_pos l]
    · rw [if_neg l, if_neg l]

theorem withKey_lt {key : Nat → Nat} {f : Nat → Nat} (hk : ∀ i, key i < 256) (hf : ∀ i, f i < 256) (k i : Nat) : withKey key k f i < 256 := by
  unfold withKey upTo
  split
  · exact hf _
  · split
    · split
      · exact hk _
      · omega
    · exact hf _
theorem keyLen_le (k : Nat) : keyLen k ≤ 64 := by
  unfold keyLen
  split <;> omega

/-- what the call Sum makes of bad sizes -/
def Refused (w : World) (e : Ending) (w' : World) : Prop := e = .returned (.tuple #[.slice none 0 0, .int .i64 1]) ∧ w = w'

set_option maxRecDepth 100000 in
theorem sum_no (size : Int) (A A2 : Option Addr) (k c n c2 : Nat) (h : ¬ (1 ≤ size ∧ size ≤ 32 ∧ k ≤ 32)) (w : World) : Calls Tryd.prog 10 #[.int .i64 size, .slice A k c, .slice A2 n c2] w (Refused w) := by
  go_enter Tryd.func10, Tryd.ntmps10
  go_wp2_with fail
  refine (new_no size A k c h _).mono ?_
  rintro e w1 ⟨rfl, rfl⟩
  go_wp2_with fail
  go_ret2
  exact ⟨rfl, rfl⟩

set_option maxRecDepth 100000 in
theorem sum_ok (size : Nat) (A A2 : Option Addr) (k c n c2 : Nat) (key f : Nat → Nat) (hs1 : 1 ≤ size) (hs2 : size ≤ 32) (hk : k ≤ 32) (hkey : ∀ i, key i < 256) (hf : ∀ i, f i < 256) (hn : n ≤ 100000000) (hc2 : n ≤ c2) (w : World) (hL : Laid w) (hA : Rd w A k key) (hA2 : Rd w A2 n f) :
    Calls Tryd.prog 10 #[.int .i64 size, .slice A k c, .slice A2 n c2] w (Tells w size (digest size key k f n)) := by
  have HL := Lib.hid hL
  have HA := Lib.hid hA
  have HA2 := Lib.hid hA2
  have HK := Lib.hid hkey
  have HF := Lib.hid hf
  have HD := Lib.hid (show sumAt (finalL (firstL size k) (withKey key k f) (keyLen k + n)) = digest size key k f n from rfl)
  have hkl := keyLen_le k
  have HS0 := Lib.hid (firstL_length size k)
  have HF0 := Lib.hid (firstL_fits size k hs2 hk)
  clear hL hA hA2 hkey hf
  go_enter Tryd.func10, Tryd.ntmps10
  go_wp2_with fail
  refine (new_any size A k c key f hs1 hs2 hk _ HL.out HA.out).mono ?_
  rintro e w1 ⟨rfl, h1, hb1⟩
  have HH := Lib.hid h1
  have HB := Lib.hid hb1
  have HL1 := Lib.hid (laid_below HL.out hb1)
  have h2 := HL.out.size
  clear h1 hb1
  go_wp2_with fail
  refine (write_any w.heap.size size (keyLen k) (firstL size k) (withKey key k f) f A2 n c2 HS0.out HF0.out (withKey_lt HK.out HF.out k) HF.out (by omega) hc2 h2 (by omega) _ HL1.out HH.out (HA2.out.below HB.out (Nat.le_refl _)) (fun h0 b o e => by
    rcases HA2.out with h | ⟨b', o', e', hlt, _⟩
    · omega
    · rw [e] at e'
      injection e' with e'
      injection e' with e1 _
      omega)).mono ?_
  rintro e w2 ⟨rfl, h3, g3⟩
  rw [withKey_behind] at h3
  have HH2 := Lib.hid h3
  have HL2 := Lib.hid (laid_of HL1.out h2 g3)
  have HB2 := Lib.hid (below_grown HB.out g3 (Nat.le_refl _) HB.out.size)
  clear h3 g3 HH HB HL1
  go_wp2_with fail
  refine (hsum_any w.heap.size size (keyLen k + n) (firstL size k) (withKey key k f) HS0.out HF0.out (withKey_lt HK.out HF.out k) (by omega) hs1 hs2 _ HL2.out HH2.out).mono ?_
  rintro e w3 ⟨G, rfl, q, hG, hb⟩
  rw [HD.out] at q
  have Q := Lib.hid q
  have QB := Lib.hid (HB2.out.trans (hb.mono HB2.out.size))
  have hG2 : w.heap.size ≤ G := Nat.le_trans HB2.out.size hG
  clear q hb hG
  go_wp2_with fail
  go_ret2
  exact ⟨G, rfl, Q.out, hG2, QB.out⟩

set_option maxRecDepth 100000 in
theorem sum32_any (A : Option Addr) (n c : Nat) (f : Nat → Nat) (hf : ∀ i, f i < 256) (hn : n ≤ 100000000) (hc : n ≤ c) (w : World) (hL : Laid w) (hA : Rd w A n f) :
    Calls Tryd.prog 9 #[.slice A n c] w fun e w' => e = .returned (.agg (byteCells (digest 32 (fun _ => 0) 0 f n) 32).toArray) ∧ Below w.heap.size w w' := by
  have HL := Lib.hid hL
  have HA := Lib.hid hA
  have HF := Lib.hid hf
  have HZ32 := Lib.hid (show ∀ f, (byteCells f 32).toArray.size = 32 from fun f => by rw [List.size_toArray, byteCells_length])
  have HC := Lib.hid (sum_ok 32 none A 0 0 n c (fun _ => 0) f (by omega) (by omega) (by omega) (fun _ => by omega) hf hn hc)
  clear hL hA hf
  generalize digest 32 (fun _ => 0) 0 f n = F at HC ⊢
  go_enter Tryd.func9, Tryd.ntmps9
  go_upto_region 1 with fail
  refine cut_world (fun X => Whole X w.heap.size 34 (byteCells (fun _ => 0) 32).toArray ∧ Below w.heap.size w X) ⟨whole_new _ _ rfl, below_alloc (Below.refl _ _) _⟩ ?_
  rintro W ⟨q1, qb⟩
  have Q1 := Lib.hid q1
  have QB := Lib.hid qb
  have hl1 := q1.lt
  clear q1 qb
  go_wp2_with fail
  refine (HC.out _ (laid_below HL.out QB.out) (.inl rfl) (HA.out.below QB.out (Nat.le_refl _))).mono ?_
  rintro e w1 ⟨G, rfl, q2, hG, hb⟩
  have HB := Lib.hid (QB.out.trans (hb.mono (by omega)))
  have R1 := Lib.hid (Q1.out.below hb hl1)
  have R2 := Lib.hid q2
  have hG2 := q2.lt
  have hGw : w.heap.size < G := by omega
  clear Q1 QB q2 hb hG HL HA HC
  go_upto_region 3 with fail
  refine cut_world (fun X => Whole X w.heap.size 34 (byteCells (fun _ => 0) 32).toArray ∧ Whole X G 5 (byteCells F 32).toArray ∧ Whole X w1.heap.size 34 (byteCells (fun _ => 0) 32).toArray ∧ Below w.heap.size w X) ⟨R1.out.alloc _, R2.out.alloc _, whole_new _ _ rfl, HB.out.alloc (by omega) _⟩ ?_
  clear R1 R2 HB
  generalize w1.heap.size = G2 at hG2 ⊢
  rintro W2 ⟨q1, q2, q3, qb⟩
  have HSRC := Lib.hid (rd_src (w := W2) (b := G) (off := 0) (n := 32) (f := F) (fun i hi => q2.bytes i hi))
  have Q1 := Lib.hid q1
  have Q3 := Lib.hid q3
  have QB := Lib.hid qb
  have hl3 := q3.lt
  clear q1 q2 q3 qb
  generalize hB : w.heap.size = B at Q1 QB hGw ⊢
  go_upto_region 4 with (refine wpList_copy rfl (.tmp 11) (.tmp 12) 22 22 rfl 5 rfl (by kernel_rfl) G2 0 32 32 ⟨G, 0, none⟩ 32 32 rfl rfl (byteCells (fun _ => 0) 32) 34 Q3.out (byteCells F 32) (by rw [byteCells_length]; rfl) HSRC.out (by rw [byteCells_length, byteCells_length]; omega) (bytes_each _ _) ?_; intro w8 hg8 hb8)
  have q8 := hg8.out
  rw [byteCells_splice (fun _ => 0) F F 32 0 32 (by omega) (fun i hi => by rw [if_pos ⟨by omega, by omega⟩, Nat.sub_zero])] at q8
  have Q8 := Lib.hid (show Whole w8 G2 34 (byteCells F 32).toArray from q8)
  have Q1' := Lib.hid (whole_grown Q1.out hb8 (by omega))
  have QB8 := Lib.hid (below_setRow (below_grown QB.out hb8 (by omega) (by omega)) (Nat.le_refl B) (byteCells F 32).toArray)
  clear hg8 hb8 q8 Q1 Q3 QB HSRC
  go_wp2_with (first | (refine wpList_load_row rfl 34 (.tmp 5) rfl G2 rfl 34 (byteCells F 32).toArray (0, 0) _ Q8.out rfl rfl (by rw [HZ32.out]; kernel_rfl) ?_) | (refine wpList_store_row rfl 34 (.tmp 2) (.tmp 14) rfl B (byteCells F 32).toArray rfl rfl 34 _ Q1'.out (by rw [HZ32.out]; kernel_rfl) (by rw [HZ32.out, HZ32.out]) (bytes_one _ _) ?_))
  have hret : Whole (w8.setRow B (byteCells F 32).toArray) B 34 (byteCells F 32).toArray := setRow_heap w8 _ _ _ _ _ Q1'.out
  refine bodyPost_ret (results_cell_row rfl _ _ B 34 _ (0, 0) _ rfl hret rfl rfl (by rw [HZ32.out]; kernel_rfl)) rfl ?_
  exact ⟨rfl, by rw [hB]; exact QB8.out⟩

end Blake
end Go.Proofs.YtcoppcididemkaaDoor
