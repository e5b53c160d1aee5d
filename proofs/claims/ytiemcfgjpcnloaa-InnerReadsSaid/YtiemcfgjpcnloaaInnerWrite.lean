/- The call Write of package inner. -/
import Derived.Test.YtiemcfgjpcnloaaInnerHeadB
import Derived.Test.YtiemcfgjpcnloaaKit
namespace Go.Proofs.Ytiemcfgjpcnloaa
namespace Inner
open Go.ChangeShapes Go.WideShapes Go.ChangeAt Go.RowKit
open Num Mem Words Chacha Aead Poly Quiet

theorem made_cap (n : Nat) (hn : n ≤ 140737488355328) (w : World) :
    (Instr.makeSlice 22 (.int .i64 0) (.int .i64 n)).run Try.prog w = .ok (.slice (some ⟨w.heap.size, 0, none⟩) 0 n) (w.alloc (.cells (byteCells (fun _ => 0) n).toArray 5)) := by
  obtain ⟨i0, hi, hz0, hz1, hz2⟩ := info_parts (show (Try.prog.info? 5).map (fun i => (i.zero, i.size, i.bytes)) = some (some (.int .u8 0), 1, 1) by kernel_rfl)
  rw [run_make w 22 5 i0 (.int .u8 0) Try.underlying22 hi hz0 .i64 .i64 0 n (by omega) (by omega) (by rw [hz2]; omega) (by omega)]
  have e : madeCells (Value.int .u8 0).cells (((n : Int)).toNat * i0.size) = (byteCells (fun _ => 0) n).toArray := by
    rw [hz1]
    apply Array.ext_getElem?
    intro i
    by_cases hi : i < n <;> simp [madeCells, Value.cells, byteCells, hi, Nat.mod_one]
  rw [e]
  rfl
def hsz (s : Bool) : Nat := if s then 40 else 20
/-- the packet that is made -/
def wrF (s : Bool) (f g : Nat → Nat) (n : Nat) (bd : Nat → Nat) (i : Nat) : Nat := if i < hsz s then (if s then h6 f g (hsz s + n) i else h4 f g (hsz s + n) i) else bd (i - hsz s)
def wrE (s t : Bool) (f g : Nat → Nat) (n : Nat) : Nat := if rightB s f = true ∧ rightB t g = true ∧ s = t then (if n > 1500 - hsz s then 2 else 0) else 40

/-- the world while a packet is made -/
structure WrW (w : World) (B : Nat) (L M : List Value) (s t : Bool) (X : World) : Prop where
  a : Whole X B 26 L.toArray
  b : Whole X (B + 1) 26 M.toArray
  ca : X.cell? ⟨B, 0, none⟩ = some (.bool s)
  cb : X.cell? ⟨B + 1, 0, none⟩ = some (.bool t)
  bel : Below B w X
theorem WrW.below {w X Y : World} {B : Nat} {L M : List Value} {s t : Bool} (h : WrW w B L M s t X) (hb : Below X.heap.size X Y) : WrW w B L M s t Y :=
  ⟨h.a.below hb h.a.lt, h.b.below hb h.b.lt, (hb.cell (p := ⟨B, 0, none⟩) h.a.lt).trans h.ca, (hb.cell (p := ⟨B + 1, 0, none⟩) h.b.lt).trans h.cb, h.bel.trans (hb.mono (Nat.le_of_lt h.a.lt))⟩

set_option maxRecDepth 100000 in
set_option maxHeartbeats 4000000 in
theorem write_no1 (s t : Bool) (f g : Nat → Nat) (hf : ∀ i, f i < 256) (hg : ∀ i, g i < 256) (A : Option Addr) (n c : Nat) (ha : rightB s f = false) (w : World) :
    Calls Try.prog 12 #[.agg (addrL s f).toArray, .agg (addrL t g).toArray, .slice A n c] w fun e w' => e = .returned (.tuple #[.slice none 0 0, .int .i64 40]) ∧ Below w.heap.size w w' := by
  obtain ⟨L, hL⟩ : ∃ L, addrL s f = L := ⟨_, rfl⟩
  obtain ⟨M, hM⟩ : ∃ M, addrL t g = M := ⟨_, rfl⟩
  have HLS := Lib.hid (show L.length = 17 from by rw [← hL, addrL_length])
  have HMS := Lib.hid (show M.length = 17 from by rw [← hM, addrL_length])
  have CL := Lib.hid (right_any s f hf)
  have CM := Lib.hid (right_any t g hg)
  rw [hL] at CL
  rw [hM] at CM
  have HL0 := Lib.hid (show L.toArray[0]? = some (.bool s) from by rw [← hL]; rfl)
  have HM0 := Lib.hid (show M.toArray[0]? = some (.bool t) from by rw [← hM]; rfl)
  rw [hL, hM]
  have HA := Lib.hid ha
  clear hL hM hf hg ha
  go_enter Try.func12, Try.ntmps12
  go_upto_region 1 with fail
  refine cut_world (fun X => WrW w w.heap.size L M s t X) ⟨(Whole.new _ _ _).alloc _, whole_new _ _ (by simp), ?_, ?_, below_alloc (below_alloc (Below.refl _ _) _) _⟩ ?_
  · rw [((Whole.new _ _ _).alloc _).cell]
    exact HL0.out
  · rw [(whole_new _ _ (by simp)).cell]
    exact HM0.out
  clear HL0 HM0
  rintro W hr
  have HR := Lib.hid hr
  have ca := hr.ca
  have cb := hr.cb
  clear hr
  generalize hB : w.heap.size = B at HR ca cb ⊢
  go_wp2_with (first | (refine wpList_load_row_if (by rfl) 26 (.tmp 3) rfl B rfl 26 L _ HR.out.a rfl rfl (by rw [HLS.out]; kernel_rfl) ?_) | (refine wpList_load_row_if (by rfl) 26 (.tmp 4) rfl (B + 1) rfl 26 M _ HR.out.b rfl rfl (by rw [HMS.out]; kernel_rfl) ?_))
  refine (CL.out _).mono ?_
  rintro e w1 ⟨rfl, hb1⟩
  have HR1 := Lib.hid (HR.out.below hb1)
  clear hb1 HR ca cb
  have ca := HR1.out.ca
  have cb := HR1.out.cb
  rw [HA.out]
  go_wp2_with fail
  go_ret2
  exact ⟨rfl, by first | exact HR1.out.bel | (rw [hB]; exact HR1.out.bel)⟩

set_option maxRecDepth 100000 in
set_option maxHeartbeats 4000000 in
theorem write_no2 (s t : Bool) (f g : Nat → Nat) (hf : ∀ i, f i < 256) (hg : ∀ i, g i < 256) (A : Option Addr) (n c : Nat) (ha : rightB s f = true) (ha2 : rightB t g = false) (w : World) :
    Calls Try.prog 12 #[.agg (addrL s f).toArray, .agg (addrL t g).toArray, .slice A n c] w fun e w' => e = .returned (.tuple #[.slice none 0 0, .int .i64 40]) ∧ Below w.heap.size w w' := by
  obtain ⟨L, hL⟩ : ∃ L, addrL s f = L := ⟨_, rfl⟩
  obtain ⟨M, hM⟩ : ∃ M, addrL t g = M := ⟨_, rfl⟩
  have HLS := Lib.hid (show L.length = 17 from by rw [← hL, addrL_length])
  have HMS := Lib.hid (show M.length = 17 from by rw [← hM, addrL_length])
  have CL := Lib.hid (right_any s f hf)
  have CM := Lib.hid (right_any t g hg)
  rw [hL] at CL
  rw [hM] at CM
  have HL0 := Lib.hid (show L.toArray[0]? = some (.bool s) from by rw [← hL]; rfl)
  have HM0 := Lib.hid (show M.toArray[0]? = some (.bool t) from by rw [← hM]; rfl)
  rw [hL, hM]
  have HA := Lib.hid ha
  have HA2 := Lib.hid ha2
  clear hL hM hf hg ha ha2
  go_enter Try.func12, Try.ntmps12
  go_upto_region 1 with fail
  refine cut_world (fun X => WrW w w.heap.size L M s t X) ⟨(Whole.new _ _ _).alloc _, whole_new _ _ (by simp), ?_, ?_, below_alloc (below_alloc (Below.refl _ _) _) _⟩ ?_
  · rw [((Whole.new _ _ _).alloc _).cell]
    exact HL0.out
  · rw [(whole_new _ _ (by simp)).cell]
    exact HM0.out
  clear HL0 HM0
  rintro W hr
  have HR := Lib.hid hr
  have ca := hr.ca
  have cb := hr.cb
  clear hr
  generalize hB : w.heap.size = B at HR ca cb ⊢
  go_wp2_with (first | (refine wpList_load_row_if (by rfl) 26 (.tmp 3) rfl B rfl 26 L _ HR.out.a rfl rfl (by rw [HLS.out]; kernel_rfl) ?_) | (refine wpList_load_row_if (by rfl) 26 (.tmp 4) rfl (B + 1) rfl 26 M _ HR.out.b rfl rfl (by rw [HMS.out]; kernel_rfl) ?_))
  refine (CL.out _).mono ?_
  rintro e w1 ⟨rfl, hb1⟩
  have HR1 := Lib.hid (HR.out.below hb1)
  clear hb1 HR ca cb
  have ca := HR1.out.ca
  have cb := HR1.out.cb
  rw [HA.out]
  go_wp2_with (refine wpList_load_row_if (by rfl) 26 (.tmp 4) rfl (B + 1) rfl 26 M _ HR1.out.b rfl rfl (by rw [HMS.out]; kernel_rfl) ?_)
  refine (CM.out _).mono ?_
  rintro e w2 ⟨rfl, hb1⟩
  have HR2 := Lib.hid (HR1.out.below hb1)
  clear hb1 HR1 ca cb
  have ca := HR2.out.ca
  have cb := HR2.out.cb
  rw [HA2.out]
  go_wp2_with fail
  go_ret2
  exact ⟨rfl, by first | exact HR2.out.bel | (rw [hB]; exact HR2.out.bel)⟩

set_option maxRecDepth 100000 in
set_option maxHeartbeats 4000000 in
theorem write_no3 (s t : Bool) (f g : Nat → Nat) (hf : ∀ i, f i < 256) (hg : ∀ i, g i < 256) (A : Option Addr) (n c : Nat) (ha : rightB s f = true) (ha2 : rightB t g = true) (hst : (s == t) = false) (w : World) :
    Calls Try.prog 12 #[.agg (addrL s f).toArray, .agg (addrL t g).toArray, .slice A n c] w fun e w' => e = .returned (.tuple #[.slice none 0 0, .int .i64 40]) ∧ Below w.heap.size w w' := by
  obtain ⟨L, hL⟩ : ∃ L, addrL s f = L := ⟨_, rfl⟩
  obtain ⟨M, hM⟩ : ∃ M, addrL t g = M := ⟨_, rfl⟩
  have HLS := Lib.hid (show L.length = 17 from by rw [← hL, addrL_length])
  have HMS := Lib.hid (show M.length = 17 from by rw [← hM, addrL_length])
  have CL := Lib.hid (right_any s f hf)
  have CM := Lib.hid (right_any t g hg)
  rw [hL] at CL
  rw [hM] at CM
  have HL0 := Lib.hid (show L.toArray[0]? = some (.bool s) from by rw [← hL]; rfl)
  have HM0 := Lib.hid (show M.toArray[0]? = some (.bool t) from by rw [← hM]; rfl)
  rw [hL, hM]
  have HA := Lib.hid ha
  have HA2 := Lib.hid ha2
  clear hL hM hf hg ha ha2
  go_enter Try.func12, Try.ntmps12
  go_upto_region 1 with fail
  refine cut_world (fun X => WrW w w.heap.size L M s t X) ⟨(Whole.new _ _ _).alloc _, whole_new _ _ (by simp), ?_, ?_, below_alloc (below_alloc (Below.refl _ _) _) _⟩ ?_
  · rw [((Whole.new _ _ _).alloc _).cell]
    exact HL0.out
  · rw [(whole_new _ _ (by simp)).cell]
    exact HM0.out
  clear HL0 HM0
  rintro W hr
  have HR := Lib.hid hr
  have ca := hr.ca
  have cb := hr.cb
  clear hr
  generalize hB : w.heap.size = B at HR ca cb ⊢
  go_wp2_with (first | (refine wpList_load_row_if (by rfl) 26 (.tmp 3) rfl B rfl 26 L _ HR.out.a rfl rfl (by rw [HLS.out]; kernel_rfl) ?_) | (refine wpList_load_row_if (by rfl) 26 (.tmp 4) rfl (B + 1) rfl 26 M _ HR.out.b rfl rfl (by rw [HMS.out]; kernel_rfl) ?_))
  refine (CL.out _).mono ?_
  rintro e w1 ⟨rfl, hb1⟩
  have HR1 := Lib.hid (HR.out.below hb1)
  clear hb1 HR ca cb
  have ca := HR1.out.ca
  have cb := HR1.out.cb
  rw [HA.out]
  go_wp2_with (refine wpList_load_row_if (by rfl) 26 (.tmp 4) rfl (B + 1) rfl 26 M _ HR1.out.b rfl rfl (by rw [HMS.out]; kernel_rfl) ?_)
  refine (CM.out _).mono ?_
  rintro e w2 ⟨rfl, hb1⟩
  have HR2 := Lib.hid (HR1.out.below hb1)
  clear hb1 HR1 ca cb
  have ca := HR2.out.ca
  have cb := HR2.out.cb
  rw [HA2.out]
  go_wp2_with fail
  go_ret2
  exact ⟨rfl, by first | exact HR2.out.bel | (rw [hB]; exact HR2.out.bel)⟩

set_option maxRecDepth 100000 in
set_option maxHeartbeats 4000000 in
theorem write_long_four (f g : Nat → Nat) (hf : ∀ i, f i < 256) (hg : ∀ i, g i < 256) (A : Option Addr) (n c : Nat) (ha : rightB false f = true) (ha2 : rightB false g = true) (hn : 1480 < n) (w : World) :
    Calls Try.prog 12 #[.agg (addrL false f).toArray, .agg (addrL false g).toArray, .slice A n c] w fun e w' => e = .returned (.tuple #[.slice none 0 0, .int .i64 2]) ∧ Below w.heap.size w w' := by
  obtain ⟨L, hL⟩ : ∃ L, addrL false f = L := ⟨_, rfl⟩
  obtain ⟨M, hM⟩ : ∃ M, addrL false g = M := ⟨_, rfl⟩
  have HLS := Lib.hid (show L.length = 17 from by rw [← hL, addrL_length])
  have HMS := Lib.hid (show M.length = 17 from by rw [← hM, addrL_length])
  have CL := Lib.hid (right_any false f hf)
  have CM := Lib.hid (right_any false g hg)
  rw [hL] at CL
  rw [hM] at CM
  have HL0 := Lib.hid (show L.toArray[0]? = some (.bool false) from by rw [← hL]; rfl)
  have HM0 := Lib.hid (show M.toArray[0]? = some (.bool false) from by rw [← hM]; rfl)
  rw [hL, hM]
  have HA := Lib.hid ha
  have HA2 := Lib.hid ha2
  have hn' : ((1480 : Int) < (n : Int)) := by omega
  clear hL hM hf hg ha ha2 hn
  go_enter Try.func12, Try.ntmps12
  go_upto_region 1 with fail
  refine cut_world (fun X => WrW w w.heap.size L M false false X) ⟨(Whole.new _ _ _).alloc _, whole_new _ _ (by simp), ?_, ?_, below_alloc (below_alloc (Below.refl _ _) _) _⟩ ?_
  · rw [((Whole.new _ _ _).alloc _).cell]
    exact HL0.out
  · rw [(whole_new _ _ (by simp)).cell]
    exact HM0.out
  clear HL0 HM0
  rintro W hr
  have HR := Lib.hid hr
  have ca := hr.ca
  have cb := hr.cb
  clear hr
  generalize hB : w.heap.size = B at HR ca cb ⊢
  go_wp2_with (first | (refine wpList_load_row_if (by rfl) 26 (.tmp 3) rfl B rfl 26 L _ HR.out.a rfl rfl (by rw [HLS.out]; kernel_rfl) ?_) | (refine wpList_load_row_if (by rfl) 26 (.tmp 4) rfl (B + 1) rfl 26 M _ HR.out.b rfl rfl (by rw [HMS.out]; kernel_rfl) ?_))
  refine (CL.out _).mono ?_
  rintro e w1 ⟨rfl, hb1⟩
  have HR1 := Lib.hid (HR.out.below hb1)
  clear hb1 HR ca cb
  have ca := HR1.out.ca
  have cb := HR1.out.cb
  rw [HA.out]
  go_wp2_with (refine wpList_load_row_if (by rfl) 26 (.tmp 4) rfl (B + 1) rfl 26 M _ HR1.out.b rfl rfl (by rw [HMS.out]; kernel_rfl) ?_)
  refine (CM.out _).mono ?_
  rintro e w2 ⟨rfl, hb1⟩
  have HR2 := Lib.hid (HR1.out.below hb1)
  clear hb1 HR1 ca cb
  have ca := HR2.out.ca
  have cb := HR2.out.cb
  rw [HA2.out]
  go_wp2_with fail
  go_ret2
  exact ⟨rfl, by first | exact HR2.out.bel | (rw [hB]; exact HR2.out.bel)⟩

set_option maxRecDepth 100000 in
set_option maxHeartbeats 4000000 in
theorem write_long_six (f g : Nat → Nat) (hf : ∀ i, f i < 256) (hg : ∀ i, g i < 256) (A : Option Addr) (n c : Nat) (ha : rightB true f = true) (ha2 : rightB true g = true) (hn : 1460 < n) (w : World) :
    Calls Try.prog 12 #[.agg (addrL true f).toArray, .agg (addrL true g).toArray, .slice A n c] w fun e w' => e = .returned (.tuple #[.slice none 0 0, .int .i64 2]) ∧ Below w.heap.size w w' := by
  obtain ⟨L, hL⟩ : ∃ L, addrL true f = L := ⟨_, rfl⟩
  obtain ⟨M, hM⟩ : ∃ M, addrL true g = M := ⟨_, rfl⟩
  have HLS := Lib.hid (show L.length = 17 from by rw [← hL, addrL_length])
  have HMS := Lib.hid (show M.length = 17 from by rw [← hM, addrL_length])
  have CL := Lib.hid (right_any true f hf)
  have CM := Lib.hid (right_any true g hg)
  rw [hL] at CL
  rw [hM] at CM
  have HL0 := Lib.hid (show L.toArray[0]? = some (.bool true) from by rw [← hL]; rfl)
  have HM0 := Lib.hid (show M.toArray[0]? = some (.bool true) from by rw [← hM]; rfl)
  rw [hL, hM]
  have HA := Lib.hid ha
  have HA2 := Lib.hid ha2
  have hn' : ((1460 : Int) < (n : Int)) := by omega
  clear hL hM hf hg ha ha2 hn
  go_enter Try.func12, Try.ntmps12
  go_upto_region 1 with fail
  refine cut_world (fun X => WrW w w.heap.size L M true true X) ⟨(Whole.new _ _ _).alloc _, whole_new _ _ (by simp), ?_, ?_, below_alloc (below_alloc (Below.refl _ _) _) _⟩ ?_
  · rw [((Whole.new _ _ _).alloc _).cell]
    exact HL0.out
  · rw [(whole_new _ _ (by simp)).cell]
    exact HM0.out
  clear HL0 HM0
  rintro W hr
  have HR := Lib.hid hr
  have ca := hr.ca
  have cb := hr.cb
  clear hr
  generalize hB : w.heap.size = B at HR ca cb ⊢
  go_wp2_with (first | (refine wpList_load_row_if (by rfl) 26 (.tmp 3) rfl B rfl 26 L _ HR.out.a rfl rfl (by rw [HLS.out]; kernel_rfl) ?_) | (refine wpList_load_row_if (by rfl) 26 (.tmp 4) rfl (B + 1) rfl 26 M _ HR.out.b rfl rfl (by rw [HMS.out]; kernel_rfl) ?_))
  refine (CL.out _).mono ?_
  rintro e w1 ⟨rfl, hb1⟩
  have HR1 := Lib.hid (HR.out.below hb1)
  clear hb1 HR ca cb
  have ca := HR1.out.ca
  have cb := HR1.out.cb
  rw [HA.out]
  go_wp2_with (refine wpList_load_row_if (by rfl) 26 (.tmp 4) rfl (B + 1) rfl 26 M _ HR1.out.b rfl rfl (by rw [HMS.out]; kernel_rfl) ?_)
  refine (CM.out _).mono ?_
  rintro e w2 ⟨rfl, hb1⟩
  have HR2 := Lib.hid (HR1.out.below hb1)
  clear hb1 HR1 ca cb
  have ca := HR2.out.ca
  have cb := HR2.out.cb
  rw [HA2.out]
  go_wp2_with fail
  go_ret2
  exact ⟨rfl, by first | exact HR2.out.bel | (rw [hB]; exact HR2.out.bel)⟩

end Inner
end Go.Proofs.Ytiemcfgjpcnloaa
