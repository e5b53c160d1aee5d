/- The calls Mul, Public and Shared of package curve. -/
import Derived.Test.YtnopjjkijedpeaaCurveLadder
import Derived.Test.YtnopjjkijedpeaaFieldKit
namespace Go.Proofs.Ytnopjjkijedpeaa
namespace Curve
open Go.ChangeShapes Go.WideShapes Go.ChangeAt Go.RowKit
open Num Mem Words Radix FieldN Chacha Quiet Go.Proofs.Ytnopjjkijedpeaa.Field Edwards

/-- a secret's number -/
def sk (s : Nat → Nat) : Nat := le (clF s) 0 32
/-- what a secret makes of a place -/
def mulN (s : Nat → Nat) (u : Fin P) : Fin P := lad (sk s) u

theorem results_one {fn : Func} {p u : Tmp} {ty : TypeId} {P : Program} (h : fn.results = #[.cell p ty, .tmp u]) (tmps : Array Value) (w : World) (g : Nat) (t : TypeId) (cs : Array Value) (d : TypeDesc)
    (hp : tmps.getD p undef = .pointer (some ⟨g, 0, none⟩)) (hg : Whole w g t cs)
    (hu : P.underlying ty = some d) (hd : d.isRow = true) (hi : (P.info? ty).map (·.size) = some cs.size) :
    (results fn tmps).run P w = .ok (.tuple #[.agg cs, tmps.getD u undef]) w := by
  have hp' : tmps[p]?.getD undef = .pointer (some ⟨g, 0, none⟩) := by simpa using hp
  have e1 := run_loadVar_mid (P := P) w g 0 ty cs.toList d (whole_range (t := t) (by simpa using hg)) hu hd (by simpa using hi)
  simp only [Array.toArray_toList] at e1
  simp [results, h, hp', asAddr, e1]

set_option maxRecDepth 100000 in
set_option maxHeartbeats 4000000 in
theorem mul_any (s f : Nat → Nat) (hs : ∀ i, s i < 256) (hf : ∀ i, f i < 256) (u : Fin P) (hu : tk f = u.val) : Gives 30 #[B32 s, B32 f] (B32 (byteAt (mulN s u).val)) := fun w => by
  obtain ⟨c, hc⟩ : ∃ c, c = clF s := ⟨_, rfl⟩
  obtain ⟨R, hR⟩ : ∃ R, R = byteAt (mulN s u).val := ⟨_, rfl⟩
  have CC' := Lib.hid (clamp_any s hs)
  have CL := Lib.hid (ladder_any (clF s) f (clF_lt hs) hf u hu)
  have e : byteAt (lad (le (clF s) 0 32) u).val = R := hR.symm
  rw [e] at CL
  rw [← hc] at CC' CL
  have HZ := Lib.hid (show ∀ f, (byteCells f 32).toArray.size = 32 from fun f => by rw [List.size_toArray, byteCells_length])
  rw [← hR]
  clear hs hf hu hc hR e
  unfold B32
  go_enter Try.func30, Try.ntmps30
  go_upto_region 1 with fail
  refine cut_world (fun W => Whole W w.heap.size 22 (byteCells s 32).toArray ∧ Whole W (w.heap.size + 1) 22 (byteCells f 32).toArray ∧ Whole W (w.heap.size + 1 + 1) 22 (byteCells (fun _ => 0) 32).toArray ∧ Below w.heap.size w W) ⟨?_, ?_, ?_, ?_⟩ ?_
  · exact ((whole_new _ _ rfl).alloc _).alloc _
  · exact (whole_new _ _ (by simp)).alloc _
  · rw [byteCells_lit32 fun _ => 0]
    exact whole_new _ _ (by simp)
  · exact below_alloc (below_alloc (below_alloc (Below.refl _ _) _) _) _
  rintro W ⟨k1, k2, k3, kb⟩
  have K1 := Lib.hid k1
  have K2 := Lib.hid k2
  have K3 := Lib.hid k3
  have KB := Lib.hid kb
  clear k1 k2 k3 kb
  generalize hB : w.heap.size = B at K1 K2 K3 KB ⊢
  refine region_drew (fun _ => True) (by kernel_rfl) trivial ?_
  intro _
  have hS : Below W.heap.size W W.drew := below_drewN (Below.refl _ _) 1
  refine Float.float (W := W) [(0, 5, .is (B32 s)), (1, 6, .is (B32 c)), (2, 7, .is (B32 f)), (3, 8, .is (B32 R))] [0, 1, 2, 3] 1 rfl (by rfl) (by kernel_rfl) (by kernel_rfl) (by kernel_rfl) (by kernel_rfl) (by kernel_rfl) (fun γ => rfl) hS (fun _ _ => trivial) ?_ ?_
  · intro γ
    simp only [Float.puts, Act.put, List.setIfInBounds_toArray, List.set_cons_zero, List.set_cons_succ]
    refine ⟨?_, ?_, ?_, ?_, trivial⟩
    · exact ⟨_, _, rfl, Float.does_take (fun w hw => run_load_op 22 (.tmp 2) rfl B rfl (K1.out.below hw K1.out.lt) rfl rfl (by rw [HZ.out]; kernel_rfl))⟩
    · exact ⟨_, _, rfl, Float.does_call 29 (#[B32 s]) (by intro w; go_simp; try with_reducible rfl) (fun w hw => CC'.out w)⟩
    · exact ⟨_, _, rfl, Float.does_take (fun w hw => run_load_op 22 (.tmp 3) rfl (B + 1) rfl (K2.out.below hw K2.out.lt) rfl rfl (by rw [HZ.out]; kernel_rfl))⟩
    · exact ⟨_, _, rfl, Float.does_call 50 (#[B32 c, B32 f]) (by intro w; go_simp; try with_reducible rfl) (fun w hw => CL.out w)⟩
  · intro γ v hS hrows hne
    simp only [Float.puts, Act.put, List.setIfInBounds_toArray, List.set_cons_zero, List.set_cons_succ]
    clear hne hrows
    clear γ
    have l3 := K3.out.lt
    have J3 := Lib.hid (K3.out.below hS l3)
    have JB := Lib.hid (KB.out.trans (hS.mono (by omega)))
    refine alone 4 rfl (by kernel_rfl) (by rfl) ?_
    intro K hK
    refine wp_store_row 22 (.tmp 4) (.tmp 8) rfl (B + 1 + 1) (byteCells R 32).toArray (by rfl) (by rfl) 22 _ J3.out (by rw [HZ.out]; kernel_rfl) (by rw [HZ.out, HZ.out]) (bytes_one _ _) ?_
    refine hK.out _ _ trivial ?_
    clear hK K
    try simp only [Act.put]
    refine region_end (by kernel_rfl) ?_
    refine cut_post (F := Exit.then _ _) (fun X => Whole X (B + 1 + 1) 22 (byteCells R 32).toArray ∧ Below B w X) ⟨setRow_heap _ _ _ _ _ _ J3.out, below_setRow JB.out (by omega) _⟩ ?_
    clear J3 JB hS l3
    rintro X ⟨r3, rb⟩
    go_wp2_with fail
    refine bodyPost_ret (results_cell_row rfl _ _ (B + 1 + 1) 22 _ (0, 0) _ rfl r3 rfl rfl (by rw [HZ.out]; kernel_rfl)) rfl ?_
    exact ⟨rfl, by rw [hB]; exact rb⟩

def nine : Fin P := ⟨9, by have := P_big; omega⟩
theorem nine_built : Try.prog.built 22 [(0, .int .u8 9)] = some (byteCells (byteAt 9) 32).toArray := by kernel_rfl

set_option maxRecDepth 100000 in
set_option maxHeartbeats 4000000 in
theorem public_any (s : Nat → Nat) (hs : ∀ i, s i < 256) : Gives 31 #[B32 s] (B32 (byteAt (mulN s nine).val)) := fun w => by
  obtain ⟨R, hR⟩ : ∃ R, R = byteAt (mulN s nine).val := ⟨_, rfl⟩
  have CM := Lib.hid (mul_any s (byteAt 9) hs (byteAt_lt 9) nine (tk_byteAt (by have := P_big; omega)))
  rw [← hR] at CM ⊢
  have HZ := Lib.hid (show ∀ f, (byteCells f 32).toArray.size = 32 from fun f => by rw [List.size_toArray, byteCells_length])
  have HN := Lib.hid nine_built
  generalize byteAt 9 = N9 at CM HN
  clear hs hR
  unfold B32
  go_enter Try.func31, Try.ntmps31
  go_upto_region 1 with fail
  refine cut_world (fun W => Whole W w.heap.size 22 (byteCells s 32).toArray ∧ Whole W (w.heap.size + 1) 22 (byteCells (fun _ => 0) 32).toArray ∧ Below w.heap.size w W) ⟨?_, ?_, ?_⟩ ?_
  · exact (whole_new _ _ rfl).alloc _
  · rw [byteCells_lit32 fun _ => 0]
    exact whole_new _ _ (by simp)
  · exact below_alloc (below_alloc (Below.refl _ _) _) _
  rintro W ⟨k1, k3, kb⟩
  have K1 := Lib.hid k1
  have K3 := Lib.hid k3
  have KB := Lib.hid kb
  clear k1 k3 kb
  generalize hB : w.heap.size = B at K1 K3 KB ⊢
  go_wp2_with (first | (refine wpList_load_row rfl 22 (.tmp 1) rfl B rfl 22 (byteCells s 32).toArray (0, 0) _ K1.out rfl rfl (by rw [HZ.out]; kernel_rfl) ?_) | (refine wpList_built1 rfl 22 0 (.const (.int .u8 9)) rfl (.int .u8 9) rfl (byteCells N9 32).toArray HN.out ?_))
  refine (CM.out _).mono ?_
  rintro e v ⟨rfl, hb⟩
  have l3 := K3.out.lt
  have L3 := Lib.hid (K3.out.below hb l3)
  have LB := Lib.hid (KB.out.trans (hb.mono (by omega)))
  clear hb K1 K3 KB
  go_wp2_with (refine wpList_store_row rfl 22 (.tmp 2) (.tmp 5) rfl (B + 1) (byteCells R 32).toArray rfl rfl 22 _ L3.out (by rw [HZ.out]; kernel_rfl) (by rw [HZ.out, HZ.out]) (bytes_one _ _) ?_)
  have hret : Whole (v.setRow (B + 1) (byteCells R 32).toArray) (B + 1) 22 (byteCells R 32).toArray := setRow_heap _ _ _ _ _ _ L3.out
  refine bodyPost_ret (results_cell_row rfl _ _ (B + 1) 22 _ (0, 0) _ rfl hret rfl rfl (by rw [HZ.out]; kernel_rfl)) rfl ?_
  exact ⟨rfl, by rw [hB]; exact below_setRow LB.out (by omega) _⟩

set_option maxRecDepth 100000 in
set_option maxHeartbeats 4000000 in
theorem shared_any (s f : Nat → Nat) (hs : ∀ i, s i < 256) (hf : ∀ i, f i < 256) (u : Fin P) (hu : tk f = u.val) (z : Bool) (hz : z = true ↔ mulN s u = 0) : Gives 36 #[B32 s, B32 f] (.tuple #[B32 (byteAt (mulN s u).val), .int .i64 (if z = true then 30 else 0)]) := fun w => by
  obtain ⟨R, hR⟩ : ∃ R, R = byteAt (mulN s u).val := ⟨_, rfl⟩
  have CM := Lib.hid (mul_any s f hs hf u hu)
  have CZ := Lib.hid (zerV (byteAt_lt _) (tk_of (mulN s u)) z (by rw [hz, eq_zero]))
  have HE := Lib.hid (show z = true → R = fun _ => 0 from fun h => by rw [hR, hz.1 h]; exact byteAt_zero)
  rw [← hR] at CM CZ ⊢
  have HZ := Lib.hid (show ∀ f, (byteCells f 32).toArray.size = 32 from fun f => by rw [List.size_toArray, byteCells_length])
  clear hs hf hu hR hz
  unfold B32
  go_enter Try.func36, Try.ntmps36
  go_upto_region 1 with fail
  refine cut_world (fun W => Whole W w.heap.size 22 (byteCells s 32).toArray ∧ Whole W (w.heap.size + 1) 22 (byteCells f 32).toArray ∧ Whole W (w.heap.size + 1 + 1) 22 (byteCells (fun _ => 0) 32).toArray ∧ Below w.heap.size w W) ⟨?_, ?_, ?_, ?_⟩ ?_
  · exact ((whole_new _ _ rfl).alloc _).alloc _
  · exact (whole_new _ _ (by simp)).alloc _
  · rw [byteCells_lit32 fun _ => 0]
    exact whole_new _ _ (by simp)
  · exact below_alloc (below_alloc (below_alloc (Below.refl _ _) _) _) _
  rintro W ⟨k1, k2, k3, kb⟩
  have K1 := Lib.hid k1
  have K2 := Lib.hid k2
  have K3 := Lib.hid k3
  have KB := Lib.hid kb
  clear k1 k2 k3 kb
  generalize hB : w.heap.size = B at K1 K2 K3 KB ⊢
  go_wp2_with (first | (refine wpList_load_row rfl 22 (.tmp 2) rfl B rfl 22 (byteCells s 32).toArray (0, 0) _ K1.out rfl rfl (by rw [HZ.out]; kernel_rfl) ?_) | (refine wpList_load_row rfl 22 (.tmp 3) rfl (B + 1) rfl 22 (byteCells f 32).toArray (0, 0) _ K2.out rfl rfl (by rw [HZ.out]; kernel_rfl) ?_))
  refine (CM.out _).mono ?_
  rintro e v ⟨rfl, hb⟩
  have l3 := K3.out.lt
  have L3 := Lib.hid (K3.out.below hb l3)
  have LB := Lib.hid (KB.out.trans (hb.mono (by omega)))
  have hsz := hb.size
  clear hb K1 K2 K3 KB
  go_upto_region 2 with (refine wpList_store_row rfl 22 (.tmp 6) (.tmp 9) rfl v.heap.size (byteCells R 32).toArray rfl rfl 22 _ (Whole.new _ _ _) (by rw [HZ.out]; kernel_rfl) (by rw [HZ.out]; rfl) (bytes_one _ _) ?_)
  refine cut_world (fun X => Whole X (B + 1 + 1) 22 (byteCells (fun _ => 0) 32).toArray ∧ Whole X v.heap.size 22 (byteCells R 32).toArray ∧ Below B w X ∧ B + 1 + 1 < v.heap.size) ⟨Whole.farRow (L3.out.alloc _) (by omega) _, setRow_heap _ _ _ _ _ _ (Whole.new _ _ _), below_setRow (LB.out.alloc (by omega) _) (by omega) _, by omega⟩ ?_
  clear L3 LB l3 hsz
  generalize v.heap.size = b6
  rintro X ⟨k3, k6, kb, hb6⟩
  have N3 := Lib.hid k3
  have N6 := Lib.hid k6
  have NB := Lib.hid kb
  clear k3 k6 kb
  go_wp2_with (refine wpList_load_row rfl 22 (.tmp 6) rfl b6 rfl 22 (byteCells R 32).toArray (0, 0) _ N6.out rfl rfl (by rw [HZ.out]; kernel_rfl) ?_)
  refine (CZ.out _).mono ?_
  rintro e Y ⟨rfl, hb⟩
  have l3 := N3.out.lt
  have M3 := Lib.hid (N3.out.below hb l3)
  have M6 := Lib.hid (N6.out.below hb N6.out.lt)
  have MB := Lib.hid (NB.out.trans (hb.mono (by omega)))
  clear hb N3 N6 NB l3
  rcases z with _ | _
  · go_wp2_with (first | (refine wpList_load_row rfl 22 (.tmp 6) rfl b6 rfl 22 (byteCells R 32).toArray (0, 0) _ M6.out rfl rfl (by rw [HZ.out]; kernel_rfl) ?_) | (refine wpList_store_row rfl 22 (.tmp 4) (.tmp 13) rfl (B + 1 + 1) (byteCells R 32).toArray rfl rfl 22 _ M3.out (by rw [HZ.out]; kernel_rfl) (by rw [HZ.out, HZ.out]) (bytes_one _ _) ?_))
    have hret : Whole (Y.setRow (B + 1 + 1) (byteCells R 32).toArray) (B + 1 + 1) 22 (byteCells R 32).toArray := setRow_heap _ _ _ _ _ _ M3.out
    refine bodyPost_ret (results_one rfl _ _ (B + 1 + 1) 22 _ _ rfl hret rfl rfl (by rw [HZ.out]; kernel_rfl)) rfl ?_
    exact ⟨rfl, below_setRow MB.out (by omega) _⟩
  · have HB := Lib.hid none_built
    rw [byteAt_zero] at HB
    go_wp2_with (first | (refine wpList_built0 rfl 22 rfl (byteCells (fun _ => 0) 32).toArray HB.out ?_) | (refine wpList_store_row rfl 22 (.tmp 4) (.tmp 12) rfl (B + 1 + 1) (byteCells (fun _ => 0) 32).toArray rfl rfl 22 _ M3.out (by rw [HZ.out]; kernel_rfl) (by rw [HZ.out]) (bytes_one _ _) ?_))
    have hret : Whole (Y.setRow (B + 1 + 1) (byteCells (fun _ => 0) 32).toArray) (B + 1 + 1) 22 (byteCells (fun _ => 0) 32).toArray := setRow_heap _ _ _ _ _ _ M3.out
    refine bodyPost_ret (results_one rfl _ _ (B + 1 + 1) 22 _ _ rfl hret rfl rfl (by rw [HZ.out]; kernel_rfl)) rfl ?_
    exact ⟨by rw [HE.out trivial]; rfl, below_setRow MB.out (by omega) _⟩

end Curve
end Go.Proofs.Ytnopjjkijedpeaa
