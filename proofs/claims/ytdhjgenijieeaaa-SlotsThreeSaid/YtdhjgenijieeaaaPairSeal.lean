/- The call Seal of package pair. -/
import Derived.Test.YtdhjgenijieeaaaPairNum
namespace Go.Proofs.Ytdhjgenijieeaaa
namespace Pr
open Go.ChangeShapes Go.WideShapes Go.ChangeAt Go.RowKit
open Num Mem Words Chacha Aead Poly Ops Quiet WinT Win

theorem results3 {fn : Func} {p q u : Tmp} {ty ty2 : TypeId} {P : Program} (h : fn.results = #[.cell p ty, .cell q ty2, .tmp u]) (tmps : Array Value) (w : World) (g : Nat) (t : TypeId) (cs : List Value) (d : TypeDesc)
    (hp : tmps.getD p undef = .pointer (some ⟨g, 0, none⟩)) (hg : Whole w g t cs.toArray)
    (hu : P.underlying ty = some d) (hd : d.isRow = true) (hi : (P.info? ty).map (·.size) = some cs.length)
    (g2 : Nat) (t2 : TypeId) (cs2 : List Value) (d2 : TypeDesc)
    (hq : tmps.getD q undef = .pointer (some ⟨g2, 0, none⟩)) (hg2 : Whole w g2 t2 cs2.toArray)
    (hu2 : P.underlying ty2 = some d2) (hd2 : d2.isRow = true) (hi2 : (P.info? ty2).map (·.size) = some cs2.length) :
    (results fn tmps).run P w = .ok (.tuple #[.agg cs.toArray, .agg cs2.toArray, tmps.getD u undef]) w := by
  have hp' : tmps[p]?.getD undef = .pointer (some ⟨g, 0, none⟩) := by simpa using hp
  have hq' : tmps[q]?.getD undef = .pointer (some ⟨g2, 0, none⟩) := by simpa using hq
  simp [results, h, hp', hq', asAddr, run_loadVar_mid w g 0 ty cs d (whole_range hg) hu hd hi, run_loadVar_mid w g2 0 ty2 cs2 d2 (whole_range hg2) hu2 hd2 hi2]

theorem run_mid_in {P : Program} {o : Oper} {a : Act} {w : World} (ty : TypeId) (x : Operand) (ho : o.op = .load ty x) (g off : Nat) (hx : a.eval x = .pointer (some ⟨g, off, none⟩)) (cs : List Value) (d : TypeDesc) (hg : w.rangeAt g off cs)
    (hu : P.underlying ty = some d) (hd : d.isRow = true) (hi : (P.info? ty).map (·.size) = some cs.length) : (execOp a.eval o).run P w = .ok (.value (.agg cs.toArray)) w := by
  unfold execOp
  simp only [ho, hx, Sem.run_bind, run_loadAt_mid w g off ty cs d hg hu hd hi, Result.andThen_ok, Sem.run_pure]

theorem wpList_built3 {P : Program} {ops : Array Oper} {rest : List Oper} {o : Oper} {a : Act} {w : World} {Q : Exit → Act → World → Prop} (hg : o.guard = none) (t : TypeId) (k1 k2 k3 : Nat) (x1 x2 x3 : Operand) (ho : o.op = .build t #[(k1, x1), (k2, x2), (k3, x3)])
    (v1 v2 v3 : Value) (h1 : a.eval x1 = v1) (h2 : a.eval x2 = v2) (h3 : a.eval x3 = v3) (vs : Array Value) (hb : P.built t [(k1, v1), (k2, v2), (k3, v3)] = some vs) (h : wpList P ops Q rest (a.put o.dst (.agg vs)) w) : wpList P ops Q (o :: rest) a w := by
  have e : P.built t ((#[(k1, x1), (k2, x2), (k3, x3)] : Array (Nat × Operand)).map fun (i, x) => (i, a.eval x)).toList = some vs := by simpa [h1, h2, h3] using hb
  refine wpList_build hg t #[(k1, x1), (k2, x2), (k3, x3)] ho (by rw [e]; rfl) ?_
  rw [e]
  exact h

/-- a row of one's own stays, where a block is set that lies ahead of its base, or that is new -/
theorem grown_cell (w : World) (g i : Nat) (v : Value) : w.grownBy (w.setCell ⟨g, i, none⟩ v) (some g) :=
  ⟨rfl, rfl, rfl, by simp, fun k _ hk => Below.heap_setCell w ⟨g, i, none⟩ v k (fun e => hk (by rw [e]))⟩
theorem own_row {w : World} {b : Nat} {T : TypeId} {A : Option Addr} {n c : Nat} {f : Nat → Nat} (h : Own w b T A n c f) {g : Nat} (hg : g < b) (cs : Array Value) : Own (w.setRow g cs) b T A n c f :=
  World.ownsRow.kept h (grown_setRow w g cs) (.inr fun e => by have := (World.ownsRow.lt h g e).1; omega)
theorem own_cell {w : World} {b : Nat} {T : TypeId} {A : Option Addr} {n c : Nat} {f : Nat → Nat} (h : Own w b T A n c f) {g : Nat} (hg : g < b) (i : Nat) (v : Value) : Own (w.setCell ⟨g, i, none⟩ v) b T A n c f :=
  World.ownsRow.kept h (grown_cell w g i v) (.inr fun e => by have := (World.ownsRow.lt h g e).1; omega)
theorem own_cells {w : World} {b : Nat} {T : TypeId} {A : Option Addr} {n c : Nat} {f : Nat → Nat} {g : Nat} (hg : g < b) : ∀ (l : List Value) (i : Nat) {w : World}, Own w b T A n c f → Own (w.setCells g i l) b T A n c f
  | [], _, _, h => h
  | v :: l, i, _, h => own_cells (w := w) hg l (i + 1) (own_cell h hg i v)
theorem own_fresh {w : World} {b : Nat} {T : TypeId} {A : Option Addr} {n c : Nat} {f : Nat → Nat} (h : Own w b T A n c f) (o : Obj) (cs : Array Value) : Own ((w.alloc o).setRow w.heap.size cs) b T A n c f :=
  World.ownsRow.kept (h.alloc o) (grown_setRow _ _ cs) (.inr fun e => by have := (World.ownsRow.lt h _ e).2; omega)

def dataL (r n : Nat) (v : Value) : List Value := [.int .u32 (r : Nat), .int .u64 (n : Nat), v]
theorem data_one (r n : Nat) (A : Option Addr) (k c : Nat) : (dataL r n (.slice A k c)).toArray.all (·.oneCell') = true := by simp [dataL, Value.oneCell']
def noP : PS := ⟨fun _ => 0, fun _ => 0, 0, 0, false, 0, 0, ⟨0, 0, 0⟩⟩
theorem zero_pair (w : World) : (zeroValue 34).run Try.prog w = .ok (.agg (pairL noP).toArray) w := by kernel_rfl
theorem zero_data (w : World) : (zeroValue 40).run Try.prog w = .ok (.agg (dataL 0 0 (.slice none 0 0)).toArray) w := by kernel_rfl
theorem data_built0 : Try.prog.built 40 [] = some (dataL 0 0 (.slice none 0 0)).toArray := by kernel_rfl
theorem data_built3 (r n : Nat) (A : Option Addr) (k c : Nat) : Try.prog.built 40 [(0, .int .u32 (r : Nat)), (1, .int .u64 (n : Nat)), (2, .slice A k c)] = some (dataL r n (.slice A k c)).toArray := by kernel_rfl
theorem wpList_built0 {P : Program} {ops : Array Oper} {rest : List Oper} {o : Oper} {a : Act} {w : World} {Q : Exit → Act → World → Prop} (hg : o.guard = none) (t : TypeId) (ho : o.op = .build t #[])
    (vs : Array Value) (hb : P.built t [] = some vs) (h : wpList P ops Q rest (a.put o.dst (.agg vs)) w) : wpList P ops Q (o :: rest) a w := by
  have e : P.built t ((#[] : Array (Nat × Operand)).map fun (i, x) => (i, a.eval x)).toList = some vs := by simpa using hb
  refine wpList_build hg t #[] ho (by rw [e]; rfl) ?_
  rw [e]
  exact h

/-- the walk's state: the argument, the answer's pair and its message -/
structure SW (w : World) (B : Nat) (L M N : List Value) (X : World) : Prop where
  arg : Whole X B 34 L.toArray
  res : Whole X (B + 1) 34 M.toArray
  msg : Whole X (B + 1 + 1) 40 N.toArray
  bel : Below B w X
theorem SW.below {w : World} {B : Nat} {L M N : List Value} {X Y : World} (h : SW w B L M N X) (hb : Below X.heap.size X Y) : SW w B L M N Y :=
  ⟨h.arg.below hb h.arg.lt, h.res.below hb h.res.lt, h.msg.below hb h.msg.lt, h.bel.trans (hb.mono (Nat.le_of_lt h.arg.lt))⟩

theorem SW.setRes {w : World} {B : Nat} {L M N : List Value} {X : World} (h : SW w B L M N X) (l : List Value) : SW w B L l N (X.setRow (B + 1) l.toArray) :=
  ⟨Whole.farRow h.arg (by omega) _, setRow_heap _ _ _ _ _ _ h.res, Whole.farRow h.msg (by omega) _, below_setRow h.bel (Nat.le_succ _) _⟩
theorem SW.setMsg {w : World} {B : Nat} {L M N : List Value} {X : World} (h : SW w B L M N X) (l : List Value) : SW w B L M l (X.setRow (B + 1 + 1) l.toArray) :=
  ⟨Whole.farRow h.arg (by omega) _, Whole.farRow h.res (by omega) _, setRow_heap _ _ _ _ _ _ h.msg, below_setRow h.bel (by omega) _⟩

def sE (p : PS) (t : Int) (n : Nat) : Nat := if oldB p t = true then 82 else if spent ≤ p.sent then 81 else if n % 16 ≠ 0 ∨ 1516 < n then 3 else 0

set_option maxRecDepth 100000 in
set_option maxHeartbeats 2000000 in
theorem seal_old (p : PS) (t : Int) (h0 : -9223372036854775808 ≤ t) (h1 : t ≤ 9223372036854775807) (A : Option Addr) (n c : Nat) (w : World) (ho : oldB p t = true) :
    Calls Try.prog 17 #[pairV p, .slice A n c, .int .i64 t] w fun e w' => e = .returned (.tuple #[pairV p, .agg (dataL 0 0 (.slice none 0 0)).toArray, .int .i64 82]) ∧ Below w.heap.size w w' := by
  have HR := Lib.hid (fun w => old_any p t h0 h1 w)
  rw [ho] at HR
  unfold pairV at HR ⊢
  obtain ⟨L, hL⟩ : ∃ L, pairL p = L := ⟨_, rfl⟩
  have HS := Lib.hid (show (pairL p).length = 72 from pairL_length p)
  have H1 := Lib.hid (pair_one p)
  rw [hL] at HR HS H1 ⊢
  obtain ⟨M, hM⟩ : ∃ M, pairL noP = M := ⟨_, rfl⟩
  have HMS := Lib.hid (show (pairL noP).length = 72 from pairL_length _)
  have hz := zero_pair
  rw [hM] at HMS hz
  obtain ⟨N, hN⟩ : ∃ N, dataL 0 0 (.slice none 0 0) = N := ⟨_, rfl⟩
  have HNS := Lib.hid (show (dataL 0 0 (.slice none 0 0)).length = 3 from rfl)
  have HN1 := Lib.hid (data_one 0 0 none 0 0)
  have HNB := Lib.hid data_built0
  have hzd := zero_data
  have HZD := Lib.hid zero_data
  rw [hN] at HNS HN1 HNB hzd HZD ⊢
  clear hL hM hN ho h0 h1
  go_enter Try.func17, Try.ntmps17
  go_upto_region 1 with fail
  refine cut_world (fun X => SW w w.heap.size L M N X) ⟨((Whole.new _ _ _).alloc _).alloc _, (whole_new _ _ (by simp)).alloc _, whole_new _ _ (by simp), below_alloc (below_alloc (below_alloc (Below.refl _ _) _) _) _⟩ ?_
  intro W hW
  generalize hB : w.heap.size = B at hW ⊢
  have HB := Lib.hid hB
  have HW := Lib.hid hW
  clear hB hW hz hzd
  go_wp2_with (first
    | (refine Poly.wpList_load_row_if rfl 34 (.tmp 3) rfl B rfl 34 L _ HW.out.arg rfl rfl (by rw [HS.out]; kernel_rfl) ?_)
    | (go_at_call 21; refine (HR.out _).mono ?_; rintro e w1 ⟨rfl, hb1⟩; replace HW := Lib.hid (HW.out.below hb1); clear hb1)
    | (refine wpList_built0 rfl 40 rfl N.toArray HNB.out ?_)
    | (refine wpList_store_row rfl 34 (.tmp 6) (.tmp 16) rfl (B + 1) L.toArray rfl rfl 34 _ HW.out.res (by rw [List.size_toArray, HS.out]; kernel_rfl) (by simp [HS.out, HMS.out]) H1.out ?_; replace HW := Lib.hid (HW.out.setRes L))
    | (refine wpList_store_row rfl 40 (.tmp 7) (.tmp 17) rfl (B + 1 + 1) N.toArray rfl rfl 40 _ HW.out.msg (by rw [List.size_toArray, HNS.out]; kernel_rfl) rfl HN1.out ?_; replace HW := Lib.hid (HW.out.setMsg N)))
  refine bodyPost_ret (results3 rfl _ _ (B + 1) 34 _ _ rfl HW.out.res rfl rfl (by rw [HS.out]; kernel_rfl) (B + 1 + 1) 40 _ _ rfl HW.out.msg rfl rfl (by rw [HNS.out]; kernel_rfl)) rfl ?_
  exact ⟨rfl, by rw [HB.out]; exact HW.out.bel⟩

set_option maxRecDepth 100000 in
set_option maxHeartbeats 2000000 in
theorem seal_spent (p : PS) (t : Int) (h0 : -9223372036854775808 ≤ t) (h1 : t ≤ 9223372036854775807) (A : Option Addr) (n c : Nat) (w : World) (ho : oldB p t = false) (hs : spent ≤ p.sent) :
    Calls Try.prog 17 #[pairV p, .slice A n c, .int .i64 t] w fun e w' => e = .returned (.tuple #[pairV p, .agg (dataL 0 0 (.slice none 0 0)).toArray, .int .i64 81]) ∧ Below w.heap.size w w' := by
  have HR := Lib.hid (fun w => old_any p t h0 h1 w)
  rw [ho] at HR
  have hge : decide ((18446744073709543423 : Int) ≤ (p.sent : Int)) = true := decide_eq_true (by unfold spent at hs; omega)
  obtain ⟨S, hS⟩ : ∃ S : Int, (p.sent : Int) = S := ⟨_, rfl⟩
  rw [hS] at hge
  have HSS := Lib.hid hS
  clear hs
  unfold pairV at HR ⊢
  obtain ⟨L, hL⟩ : ∃ L, pairL p = L := ⟨_, rfl⟩
  have HS := Lib.hid (show (pairL p).length = 72 from pairL_length p)
  have H1 := Lib.hid (pair_one p)
  have HC := Lib.hid (show ∀ X B, Whole X B 34 (pairL p).toArray → X.cell? ⟨B, 68, none⟩ = some (.int .u64 S) from fun X B h => by rw [at_sent h, hS])
  rw [hL] at HR HS H1 HC ⊢
  obtain ⟨M, hM⟩ : ∃ M, pairL noP = M := ⟨_, rfl⟩
  have HMS := Lib.hid (show (pairL noP).length = 72 from pairL_length _)
  have hz := zero_pair
  rw [hM] at HMS hz
  obtain ⟨N, hN⟩ : ∃ N, dataL 0 0 (.slice none 0 0) = N := ⟨_, rfl⟩
  have HNS := Lib.hid (show (dataL 0 0 (.slice none 0 0)).length = 3 from rfl)
  have HN1 := Lib.hid (data_one 0 0 none 0 0)
  have HNB := Lib.hid data_built0
  have hzd := zero_data
  have HZD := Lib.hid zero_data
  rw [hN] at HNS HN1 HNB hzd HZD ⊢
  clear hL hM hN ho h0 h1 hS
  go_enter Try.func17, Try.ntmps17
  go_upto_region 1 with fail
  refine cut_world (fun X => SW w w.heap.size L M N X) ⟨((Whole.new _ _ _).alloc _).alloc _, (whole_new _ _ (by simp)).alloc _, whole_new _ _ (by simp), below_alloc (below_alloc (below_alloc (Below.refl _ _) _) _) _⟩ ?_
  intro W hW
  generalize hB : w.heap.size = B at hW ⊢
  have HB := Lib.hid hB
  have HW := Lib.hid hW
  clear hB hW hz hzd
  go_wp2_with (first
    | (refine Poly.wpList_load_row_if rfl 34 (.tmp 3) rfl B rfl 34 L _ HW.out.arg rfl rfl (by rw [HS.out]; kernel_rfl) ?_)
    | (go_at_call 21; refine (HR.out _).mono ?_; rintro e w1 ⟨rfl, hb1⟩; replace HW := Lib.hid (HW.out.below hb1); clear hb1; have c1 := HC.out _ _ HW.out.arg)
    | (refine wpList_built0 rfl 40 rfl N.toArray HNB.out ?_)
    | (refine wpList_store_row rfl 34 (.tmp 6) (.tmp 22) rfl (B + 1) L.toArray rfl rfl 34 _ HW.out.res (by rw [List.size_toArray, HS.out]; kernel_rfl) (by simp [HS.out, HMS.out]) H1.out ?_; replace HW := Lib.hid (HW.out.setRes L))
    | (refine wpList_store_row rfl 40 (.tmp 7) (.tmp 23) rfl (B + 1 + 1) N.toArray rfl rfl 40 _ HW.out.msg (by rw [List.size_toArray, HNS.out]; kernel_rfl) rfl HN1.out ?_; replace HW := Lib.hid (HW.out.setMsg N)))
  refine bodyPost_ret (results3 rfl _ _ (B + 1) 34 _ _ rfl HW.out.res rfl rfl (by rw [HS.out]; kernel_rfl) (B + 1 + 1) 40 _ _ rfl HW.out.msg rfl rfl (by rw [HNS.out]; kernel_rfl)) rfl ?_
  exact ⟨rfl, by rw [HB.out]; exact HW.out.bel⟩

set_option maxRecDepth 100000 in
set_option maxHeartbeats 2000000 in
theorem seal_size (p : PS) (t : Int) (h0 : -9223372036854775808 ≤ t) (h1 : t ≤ 9223372036854775807) (A : Option Addr) (n c : Nat) (w : World) (ho : oldB p t = false) (hs : p.sent < spent) (h16 : n % 16 ≠ 0) :
    Calls Try.prog 17 #[pairV p, .slice A n c, .int .i64 t] w fun e w' => e = .returned (.tuple #[pairV p, .agg (dataL 0 0 (.slice none 0 0)).toArray, .int .i64 3]) ∧ Below w.heap.size w w' := by
  have HR := Lib.hid (fun w => old_any p t h0 h1 w)
  rw [ho] at HR
  have hge : decide ((18446744073709543423 : Int) ≤ (p.sent : Int)) = false := decide_eq_false (by unfold spent at hs; omega)
  obtain ⟨S, hS⟩ : ∃ S : Int, (p.sent : Int) = S := ⟨_, rfl⟩
  rw [hS] at hge
  have HSS := Lib.hid hS
  have hrm : ((n : Int) % 16 != 0) = true := by simp; omega
  clear hs h16
  unfold pairV at HR ⊢
  obtain ⟨L, hL⟩ : ∃ L, pairL p = L := ⟨_, rfl⟩
  have HS := Lib.hid (show (pairL p).length = 72 from pairL_length p)
  have H1 := Lib.hid (pair_one p)
  have HC := Lib.hid (show ∀ X B, Whole X B 34 (pairL p).toArray → X.cell? ⟨B, 68, none⟩ = some (.int .u64 S) from fun X B h => by rw [at_sent h, hS])
  rw [hL] at HR HS H1 HC ⊢
  obtain ⟨M, hM⟩ : ∃ M, pairL noP = M := ⟨_, rfl⟩
  have HMS := Lib.hid (show (pairL noP).length = 72 from pairL_length _)
  have hz := zero_pair
  rw [hM] at HMS hz
  obtain ⟨N, hN⟩ : ∃ N, dataL 0 0 (.slice none 0 0) = N := ⟨_, rfl⟩
  have HNS := Lib.hid (show (dataL 0 0 (.slice none 0 0)).length = 3 from rfl)
  have HN1 := Lib.hid (data_one 0 0 none 0 0)
  have HNB := Lib.hid data_built0
  have hzd := zero_data
  have HZD := Lib.hid zero_data
  rw [hN] at HNS HN1 HNB hzd HZD ⊢
  clear hL hM hN ho h0 h1 hS
  go_enter Try.func17, Try.ntmps17
  go_upto_region 1 with fail
  refine cut_world (fun X => SW w w.heap.size L M N X) ⟨((Whole.new _ _ _).alloc _).alloc _, (whole_new _ _ (by simp)).alloc _, whole_new _ _ (by simp), below_alloc (below_alloc (below_alloc (Below.refl _ _) _) _) _⟩ ?_
  intro W hW
  generalize hB : w.heap.size = B at hW ⊢
  have HB := Lib.hid hB
  have HW := Lib.hid hW
  clear hB hW hz hzd
  go_wp2_with (first
    | (refine Poly.wpList_load_row_if rfl 34 (.tmp 3) rfl B rfl 34 L _ HW.out.arg rfl rfl (by rw [HS.out]; kernel_rfl) ?_)
    | (go_at_call 21; refine (HR.out _).mono ?_; rintro e w1 ⟨rfl, hb1⟩; replace HW := Lib.hid (HW.out.below hb1); clear hb1; have c1 := HC.out _ _ HW.out.arg)
    | (refine wpList_built0 rfl 40 rfl N.toArray HNB.out ?_)
    | (refine wpList_store_row rfl 34 (.tmp 6) (.tmp 34) rfl (B + 1) L.toArray rfl rfl 34 _ HW.out.res (by rw [List.size_toArray, HS.out]; kernel_rfl) (by simp [HS.out, HMS.out]) H1.out ?_; replace HW := Lib.hid (HW.out.setRes L))
    | (refine wpList_store_row rfl 40 (.tmp 7) (.tmp 35) rfl (B + 1 + 1) N.toArray rfl rfl 40 _ HW.out.msg (by rw [List.size_toArray, HNS.out]; kernel_rfl) rfl HN1.out ?_; replace HW := Lib.hid (HW.out.setMsg N)))
  refine bodyPost_ret (results3 rfl _ _ (B + 1) 34 _ _ rfl HW.out.res rfl rfl (by rw [HS.out]; kernel_rfl) (B + 1 + 1) 40 _ _ rfl HW.out.msg rfl rfl (by rw [HNS.out]; kernel_rfl)) rfl ?_
  exact ⟨rfl, by rw [HB.out]; exact HW.out.bel⟩

set_option maxRecDepth 100000 in
set_option maxHeartbeats 2000000 in
theorem seal_long (p : PS) (t : Int) (h0 : -9223372036854775808 ≤ t) (h1 : t ≤ 9223372036854775807) (A : Option Addr) (n c : Nat) (w : World) (ho : oldB p t = false) (hs : p.sent < spent) (h16 : n % 16 = 0) (hn : 1516 < n) :
    Calls Try.prog 17 #[pairV p, .slice A n c, .int .i64 t] w fun e w' => e = .returned (.tuple #[pairV p, .agg (dataL 0 0 (.slice none 0 0)).toArray, .int .i64 3]) ∧ Below w.heap.size w w' := by
  have HR := Lib.hid (fun w => old_any p t h0 h1 w)
  rw [ho] at HR
  have hge : decide ((18446744073709543423 : Int) ≤ (p.sent : Int)) = false := decide_eq_false (by unfold spent at hs; omega)
  obtain ⟨S, hS⟩ : ∃ S : Int, (p.sent : Int) = S := ⟨_, rfl⟩
  rw [hS] at hge
  have HSS := Lib.hid hS
  have hrm : ((n : Int) % 16 != 0) = false := by simp; omega
  clear hs h16
  unfold pairV at HR ⊢
  obtain ⟨L, hL⟩ : ∃ L, pairL p = L := ⟨_, rfl⟩
  have HS := Lib.hid (show (pairL p).length = 72 from pairL_length p)
  have H1 := Lib.hid (pair_one p)
  have HC := Lib.hid (show ∀ X B, Whole X B 34 (pairL p).toArray → X.cell? ⟨B, 68, none⟩ = some (.int .u64 S) from fun X B h => by rw [at_sent h, hS])
  rw [hL] at HR HS H1 HC ⊢
  obtain ⟨M, hM⟩ : ∃ M, pairL noP = M := ⟨_, rfl⟩
  have HMS := Lib.hid (show (pairL noP).length = 72 from pairL_length _)
  have hz := zero_pair
  rw [hM] at HMS hz
  obtain ⟨N, hN⟩ : ∃ N, dataL 0 0 (.slice none 0 0) = N := ⟨_, rfl⟩
  have HNS := Lib.hid (show (dataL 0 0 (.slice none 0 0)).length = 3 from rfl)
  have HN1 := Lib.hid (data_one 0 0 none 0 0)
  have HNB := Lib.hid data_built0
  have hzd := zero_data
  have HZD := Lib.hid zero_data
  rw [hN] at HNS HN1 HNB hzd HZD ⊢
  clear hL hM hN ho h0 h1 hS
  go_enter Try.func17, Try.ntmps17
  go_upto_region 1 with fail
  refine cut_world (fun X => SW w w.heap.size L M N X) ⟨((Whole.new _ _ _).alloc _).alloc _, (whole_new _ _ (by simp)).alloc _, whole_new _ _ (by simp), below_alloc (below_alloc (below_alloc (Below.refl _ _) _) _) _⟩ ?_
  intro W hW
  generalize hB : w.heap.size = B at hW ⊢
  have HB := Lib.hid hB
  have HW := Lib.hid hW
  clear hB hW hz hzd
  go_wp2_with (first
    | (refine Poly.wpList_load_row_if rfl 34 (.tmp 3) rfl B rfl 34 L _ HW.out.arg rfl rfl (by rw [HS.out]; kernel_rfl) ?_)
    | (go_at_call 21; refine (HR.out _).mono ?_; rintro e w1 ⟨rfl, hb1⟩; replace HW := Lib.hid (HW.out.below hb1); clear hb1; have c1 := HC.out _ _ HW.out.arg)
    | (refine wpList_built0 rfl 40 rfl N.toArray HNB.out ?_)
    | (refine wpList_store_row rfl 34 (.tmp 6) (.tmp 34) rfl (B + 1) L.toArray rfl rfl 34 _ HW.out.res (by rw [List.size_toArray, HS.out]; kernel_rfl) (by simp [HS.out, HMS.out]) H1.out ?_; replace HW := Lib.hid (HW.out.setRes L))
    | (refine wpList_store_row rfl 40 (.tmp 7) (.tmp 35) rfl (B + 1 + 1) N.toArray rfl rfl 40 _ HW.out.msg (by rw [List.size_toArray, HNS.out]; kernel_rfl) rfl HN1.out ?_; replace HW := Lib.hid (HW.out.setMsg N)))
  refine bodyPost_ret (results3 rfl _ _ (B + 1) 34 _ _ rfl HW.out.res rfl rfl (by rw [HS.out]; kernel_rfl) (B + 1 + 1) 40 _ _ rfl HW.out.msg rfl rfl (by rw [HNS.out]; kernel_rfl)) rfl ?_
  exact ⟨rfl, by rw [HB.out]; exact HW.out.bel⟩

set_option maxRecDepth 100000 in
set_option maxHeartbeats 2000000 in
theorem seal_fine (p : PS) (hp : p.ok) (t : Int) (h0 : -9223372036854775808 ≤ t) (h1 : t ≤ 9223372036854775807) (A : Option Addr) (n c : Nat) (f : Nat → Nat) (hf : ∀ i, f i < 256) (w : World) (hr : Rd w A n f) (ho : oldB p t = false) (hs : p.sent < spent) (h16 : n % 16 = 0) (hn : n ≤ 1516) :
    Calls Try.prog 17 #[pairV p, .slice A n c, .int .i64 t] w fun e w' => ∃ A' c', e = .returned (.tuple #[pairV { p with sent := p.sent + 1 }, .agg (dataL p.m p.sent (.slice A' (n + 16) (n + 16))).toArray, .int .i64 0]) ∧ Own w' w.heap.size 5 A' (n + 16) c' (boxF p.s (bn (byteAt p.sent)) f n (fun _ => 0) 0) ∧ Below w.heap.size w w' := by
  have HR := Lib.hid (fun w => old_any p t h0 h1 w)
  rw [ho] at HR
  have hge : decide ((18446744073709543423 : Int) ≤ (p.sent : Int)) = false := decide_eq_false (by unfold spent at hs; omega)
  obtain ⟨S, hS⟩ : ∃ S : Int, (p.sent : Int) = S := ⟨_, rfl⟩
  rw [hS] at hge
  have HSS := Lib.hid hS
  have hrm : ((n : Int) % 16 != 0) = false := by simp; omega
  have hlt : p.sent + 1 < 18446744073709551616 := by unfold spent at hs; omega
  have hle : n ≤ 65536 := by omega
  have hnd : decide ((1516 : Int) < (n : Int)) = false := decide_eq_false (by omega)
  clear hs h16 hn
  have HADD := Lib.hid (show IntKind.u64.wrap (S + 1) = ((p.sent + 1 : Nat) : Int) by rw [← hS, IntKind.wrap_u64]; omega)
  have HCT := Lib.hid (fun w => counter_any p.sent hp.ht w)
  have HSE := Lib.hid (fun w (hr : Rd w A n f) => seal_ok p.s (bn (byteAt p.sent)) hp.hs (bn_lt (fun i => byteAt_lt _ _)) A n c f hf none 0 0 (fun _ => 0) (fun _ => by decide) (Nat.le_refl _) (by omega) (by omega) w hr (.inl rfl))
  obtain ⟨CN, hCN⟩ : ∃ CN, (byteCells (bn (byteAt p.sent)) 12).toArray = CN := ⟨_, rfl⟩
  obtain ⟨K, hK⟩ : ∃ K, byteCells p.s 32 = K := ⟨_, rfl⟩
  have HKL := Lib.hid (show K.length = 32 by rw [← hK, byteCells_length])
  rw [hCN] at HCT HSE
  rw [hK] at HSE
  have HCTS := Lib.hid (show ∀ w, Calls Try.prog 26 #[.int .u64 S] w fun e w' => e = .returned (.agg CN) ∧ Below w.heap.size w w' from fun w => by rw [← hS]; exact HCT.out w)
  have HRD := Lib.hid hr
  have HZ12 := Lib.hid (show ∀ f, (byteCells f 12).toArray.size = 12 from fun f => by rw [List.size_toArray, byteCells_length])
  unfold pairV at HR ⊢
  obtain ⟨L, hL⟩ : ∃ L, pairL p = L := ⟨_, rfl⟩
  have HS := Lib.hid (show (pairL p).length = 72 from pairL_length p)
  have H1 := Lib.hid (pair_one p)
  have HC := Lib.hid (show ∀ X B, Whole X B 34 (pairL p).toArray → X.cell? ⟨B, 68, none⟩ = some (.int .u64 S) from fun X B h => by rw [at_sent h, hS])
  have HC2 := Lib.hid (show ∀ X B, Whole X B 34 (pairL p).toArray → X.cell? ⟨B, 65, none⟩ = some (.int .u32 (p.m : Nat)) from fun X B h => at_m h)
  have HRG := Lib.hid (show ∀ X B, Whole X B 34 (pairL p).toArray → X.rangeAt B 0 K from fun X B h => by rw [← hK]; exact range_s h)
  have HPT := Lib.hid (show ∀ X B, Whole X B 34 (pairL p).toArray → Whole (X.setCell ⟨B, 68, none⟩ (.int .u64 ((p.sent + 1 : Nat) : Int))) B 34 (pairL { p with sent := p.sent + 1 }).toArray from fun X B h => put_sent h _)
  have HS' := Lib.hid (show (pairL { p with sent := p.sent + 1 }).length = 72 from pairL_length _)
  have H1' := Lib.hid (pair_one { p with sent := p.sent + 1 })
  obtain ⟨L', hL'⟩ : ∃ L', pairL { p with sent := p.sent + 1 } = L' := ⟨_, rfl⟩
  rw [hL'] at HPT HS' H1' ⊢
  rw [hL] at HR HS H1 HC HC2 HRG HPT ⊢
  obtain ⟨M, hM⟩ : ∃ M, pairL noP = M := ⟨_, rfl⟩
  have HMS := Lib.hid (show (pairL noP).length = 72 from pairL_length _)
  have hz := zero_pair
  rw [hM] at HMS hz
  obtain ⟨N, hN⟩ : ∃ N, dataL 0 0 (.slice none 0 0) = N := ⟨_, rfl⟩
  have HNS := Lib.hid (show (dataL 0 0 (.slice none 0 0)).length = 3 from rfl)
  have HN1 := Lib.hid (data_one 0 0 none 0 0)
  have HNB := Lib.hid data_built0
  have hzd := zero_data
  have HZD := Lib.hid zero_data
  rw [hN] at HNS HN1 HNB hzd HZD
  clear hL hM hN ho h0 h1 hS hL' hr hf hp hK hCN HCT
  go_enter Try.func17, Try.ntmps17
  go_upto_region 1 with fail
  refine cut_world (fun X => SW w w.heap.size L M N X) ⟨((Whole.new _ _ _).alloc _).alloc _, (whole_new _ _ (by simp)).alloc _, whole_new _ _ (by simp), below_alloc (below_alloc (below_alloc (Below.refl _ _) _) _) _⟩ ?_
  intro W hW
  generalize hB : w.heap.size = B at hW ⊢
  have HB := Lib.hid hB
  have HW := Lib.hid hW
  clear hB hW hz hzd
  go_upto_region 7 with (first
    | (refine Poly.wpList_load_row_if rfl 34 (.tmp 3) rfl B rfl 34 L _ HW.out.arg rfl rfl (by rw [HS.out]; kernel_rfl) ?_)
    | (go_at_call 21; refine (HR.out _).mono ?_; rintro e w1 ⟨rfl, hb1⟩; replace HW := Lib.hid (HW.out.below hb1); clear hb1; have c1 := HC.out _ _ HW.out.arg))
  refine region_start (fun Y => Below w1.heap.size w1 Y) (by kernel_rfl) (below_drewN (Below.refl _ _) 1) ?_
  intro w2 hS
  have HWL := Lib.hid (show B + 1 + 1 + 1 ≤ w1.heap.size from HW.out.msg.lt)
  have HRD1 := Lib.hid (HRD.out.below HW.out.bel (by rw [HB.out]; exact Nat.le_refl _))
  refine take 0 _ rfl (by kernel_rfl) (by kernel_rfl) (by kernel_rfl) (fun _ _ _ h => h) (by rfl) hS (by intro w _; go_simp; with_reducible rfl) ?_
  try simp only [Act.put, List.setIfInBounds_toArray, List.set_cons_zero, List.set_cons_succ]
  refine take 1 _ rfl (by kernel_rfl) (by kernel_rfl) (by kernel_rfl) (fun _ _ _ h => h) (by rfl) hS (by intro w _; go_simp; with_reducible rfl) ?_
  try simp only [Act.put, List.setIfInBounds_toArray, List.set_cons_zero, List.set_cons_succ]
  refine take 2 (.agg K.toArray) rfl (by kernel_rfl) (by kernel_rfl) (by kernel_rfl) (fun _ _ _ h => h) (by rfl) hS (fun Y hY => run_mid_in 24 (.tmp 38) rfl B 0 rfl K _ (HRG.out _ _ (HW.out.below hY).arg) rfl rfl (by rw [HKL.out]; kernel_rfl)) ?_
  try simp only [Act.put, List.setIfInBounds_toArray, List.set_cons_zero, List.set_cons_succ]
  refine take 3 _ rfl (by kernel_rfl) (by kernel_rfl) (by kernel_rfl) (fun _ _ _ h => h) (by rfl) hS (by intro w _; go_simp; with_reducible rfl) ?_
  try simp only [Act.put, List.setIfInBounds_toArray, List.set_cons_zero, List.set_cons_succ]
  refine take 4 _ rfl (by kernel_rfl) (by kernel_rfl) (by kernel_rfl) (fun _ _ _ h => h) (by rfl) hS (by intro w hw; have hcl := HC.out _ _ (HW.out.below hw).arg; go_simp; with_reducible rfl) ?_
  try simp only [Act.put, List.setIfInBounds_toArray, List.set_cons_zero, List.set_cons_succ]
  refine take 6 _ rfl (by kernel_rfl) (by kernel_rfl) (by kernel_rfl) (fun _ _ _ h => h) (by rfl) hS (by intro w _; go_simp; with_reducible rfl) ?_
  try simp only [Act.put, List.setIfInBounds_toArray, List.set_cons_zero, List.set_cons_succ]
  refine alone 5 rfl (by kernel_rfl) (by rfl) ?_
  intro K hK
  go_simp
  refine (HCTS.out _).mono ?_
  rintro e w3 ⟨rfl, hb⟩
  go_simp
  replace hS := below_trans hS hb
  refine hK.out _ _ hS ?_
  clear hK hb K
  try simp only [Act.put, List.setIfInBounds_toArray, List.set_cons_zero, List.set_cons_succ]
  refine alone 7 rfl (by kernel_rfl) (by rfl) ?_
  intro K hK
  go_simp
  have HRD2 := Lib.hid ((HRD1.out.below hS (Nat.le_refl _)))
  refine (HSE.out _ HRD2.out).mono ?_
  rintro e w4 ⟨A', c', rfl, ho, hb⟩
  have hsz := Nat.le_trans HWL.out hS.size
  go_simp
  replace hS := below_trans hS hb
  refine hK.out _ _ hS ?_
  clear hK hb K
  try simp only [Act.put, List.setIfInBounds_toArray, List.set_cons_zero, List.set_cons_succ]
  refine take 8 _ rfl (by kernel_rfl) (by kernel_rfl) (by kernel_rfl) (fun _ _ _ h => h) (by rfl) hS (by intro w _; go_simp; with_reducible rfl) ?_
  try simp only [Act.put, List.setIfInBounds_toArray, List.set_cons_zero, List.set_cons_succ]
  refine take 9 _ rfl (by kernel_rfl) (by kernel_rfl) (by kernel_rfl) (fun _ _ _ h => h) (by rfl) hS (by intro w _; go_simp; with_reducible rfl) ?_
  try simp only [Act.put, List.setIfInBounds_toArray, List.set_cons_zero, List.set_cons_succ]
  refine take 10 _ rfl (by kernel_rfl) (by kernel_rfl) (by kernel_rfl) (fun _ _ _ h => h) (by rfl) hS (by intro w _; go_simp; with_reducible rfl) ?_
  try simp only [Act.put, List.setIfInBounds_toArray, List.set_cons_zero, List.set_cons_succ]
  refine take 11 _ rfl (by kernel_rfl) (by kernel_rfl) (by kernel_rfl) (fun _ _ _ h => h) (by rfl) hS (by intro w _; go_simp; with_reducible rfl) ?_
  try simp only [Act.put, List.setIfInBounds_toArray, List.set_cons_zero, List.set_cons_succ]
  refine take 12 _ rfl (by kernel_rfl) (by kernel_rfl) (by kernel_rfl) (fun _ _ _ h => h) (by rfl) hS (by intro w _; go_simp; with_reducible rfl) ?_
  try simp only [Act.put, List.setIfInBounds_toArray, List.set_cons_zero, List.set_cons_succ]
  refine region_end (by kernel_rfl) ?_
  replace HW := Lib.hid (HW.out.below hS)
  have HO := Lib.hid (Own.more (B' := B + 1 + 1 + 1) ho hsz)
  clear hS ho hsz HRD1 HRD2 HRD HSE HCTS HR
  have hzd := HZD.out
  obtain ⟨DL, hDL⟩ : ∃ DL, dataL p.m p.sent (.slice A' (n + 16) (n + 16)) = DL := ⟨_, rfl⟩
  have HDS := Lib.hid (show DL.length = 3 by rw [← hDL]; rfl)
  have HD1 := Lib.hid (show DL.toArray.all (·.oneCell') = true by rw [← hDL]; exact data_one _ _ _ _ _)
  have HDB := Lib.hid (show Try.prog.built 40 [(0, .int .u32 (p.m : Nat)), (1, .int .u64 S), (2, .slice A' (n + 16) (n + 16))] = some DL.toArray by rw [← hDL, ← HSS.out]; exact data_built3 _ _ _ _ _)
  have HDL := Lib.hid hDL
  clear hDL
  have c1 := HC.out _ _ HW.out.arg
  have c2 := HC2.out _ _ HW.out.arg
  go_upto_region 9 with (first
    | (refine wpList_built3 rfl 40 0 1 2 (.tmp 49) (.tmp 51) (.tmp 52) rfl (.int .u32 (p.m : Nat)) (.int .u64 S) (.slice A' (n + 16) (n + 16)) rfl rfl rfl DL.toArray HDB.out ?_)
    | (refine wpList_store_row rfl 40 (.tmp 11) (.tmp 53) rfl w4.heap.size DL.toArray rfl rfl 40 _ (Whole.new _ _ _) (by rw [List.size_toArray, HDS.out]; kernel_rfl) (by simp [HDS.out, HNS.out]) HD1.out ?_))
  clear c1 c2
  have hlt := HW.out.msg.lt
  refine cut_world (fun X => SW w B L M N X ∧ Whole X w4.heap.size 40 DL.toArray ∧ Own X (B + 1 + 1 + 1) 5 A' (n + 16) c' (boxF p.s (bn (byteAt p.sent)) f n (fun _ => 0) 0)) ⟨?_, ?_, ?_⟩ ?_
  · exact ⟨Whole.farRow (HW.out.arg.alloc _) (by omega) _, Whole.farRow (HW.out.res.alloc _) (by omega) _, Whole.farRow (HW.out.msg.alloc _) (by omega) _, below_setRow (below_alloc' HW.out.bel (by omega) _) (by omega) _⟩
  · exact setRow_heap _ _ _ _ _ _ (Whole.new _ _ _)
  · exact own_fresh HO.out _ _
  rintro X ⟨q1, q2, q3⟩
  have HGE := Lib.hid (show B + 1 + 1 < w4.heap.size from hlt)
  generalize w4.heap.size = g at q2 HGE ⊢
  have Q1 := Lib.hid q1
  have Q2 := Lib.hid q2
  have Q3 := Lib.hid q3
  clear hlt q1 q2 q3 hzd HW HO
  have c1 := HC.out _ _ Q1.out.arg
  have c2 := Q1.out.arg.free 68
  go_upto_region 10 with fail
  clear c1 c2
  rw [HADD.out]
  refine cut_world (fun Y => SW w B L' M N Y ∧ Whole Y g 40 DL.toArray ∧ Own Y (B + 1 + 1 + 1) 5 A' (n + 16) c' (boxF p.s (bn (byteAt p.sent)) f n (fun _ => 0) 0)) ⟨?_, ?_, ?_⟩ ?_
  · exact ⟨HPT.out _ _ Q1.out.arg, Q1.out.res.far (show B + 1 ≠ B by omega) _, Q1.out.msg.far (show B + 1 + 1 ≠ B by omega) _, Q1.out.bel.setCell (Nat.le_refl B) _⟩
  · exact Q2.out.far (show g ≠ B by have := HGE.out; omega) _
  · exact own_cell Q3.out (by omega) _ _
  rintro Y ⟨q1, q2, q3⟩
  have R1 := Lib.hid q1
  have R3 := Lib.hid q3
  have R2 := Lib.hid q2
  clear q1 q2 q3 Q1 Q2 Q3
  refine region_drew (fun Z => Whole Z B 34 L'.toArray ∧ Whole Z g 40 DL.toArray) (by kernel_rfl) ⟨R1.out.arg, R2.out⟩ ?_
  intro hS
  have S1 := Lib.hid (show SW w B L' M N Y.drew from R1.out.below (below_drewN (Below.refl _ _) 1))
  have S3 := Lib.hid (show Own Y.drew (B + 1 + 1 + 1) 5 A' (n + 16) c' (boxF p.s (bn (byteAt p.sent)) f n (fun _ => 0) 0) from R3.out.drewN 1)
  have hgt := HGE.out
  generalize Y.drew = Z at S1 S3 hS ⊢
  refine take 0 (.agg L'.toArray) rfl (by kernel_rfl) (by kernel_rfl) (by kernel_rfl) (fun _ _ _ h => h) (by rfl) hS (fun V hV => run_mid_in 34 (.tmp 3) rfl B 0 rfl L' _ (whole_range hV.1) rfl rfl (by rw [HS'.out]; kernel_rfl)) ?_
  try simp only [Act.put, List.setIfInBounds_toArray, List.set_cons_zero, List.set_cons_succ]
  refine take 1 (.agg DL.toArray) rfl (by kernel_rfl) (by kernel_rfl) (by kernel_rfl) (fun _ _ _ h => h) (by rfl) hS (fun V hV => run_mid_in 40 (.tmp 11) rfl g 0 rfl DL _ (whole_range hV.2) rfl rfl (by rw [HDS.out]; kernel_rfl)) ?_
  try simp only [Act.put, List.setIfInBounds_toArray, List.set_cons_zero, List.set_cons_succ]
  refine alone 2 rfl (by kernel_rfl) (by rfl) ?_
  intro KK hKK
  refine wp_store_row 34 (.tmp 6) (.tmp 58) rfl (B + 1) L'.toArray rfl rfl 34 _ S1.out.res (by rw [List.size_toArray, HS'.out]; kernel_rfl) (by simp [HS'.out, HMS.out]) H1'.out ?_
  replace hS := And.intro (Whole.farRow hS.1 (show B ≠ B + 1 by omega) L'.toArray) (Whole.farRow hS.2 (show g ≠ B + 1 by omega) L'.toArray)
  replace S1 := Lib.hid (S1.out.setRes L')
  replace S3 := Lib.hid (own_row S3.out (show B + 1 < B + 1 + 1 + 1 by omega) L'.toArray)
  refine hKK.out _ _ hS ?_
  clear hKK KK
  try simp only [Act.put]
  refine alone 3 rfl (by kernel_rfl) (by rfl) ?_
  intro KK hKK
  refine wp_store_row 40 (.tmp 7) (.tmp 59) rfl (B + 1 + 1) DL.toArray rfl rfl 40 _ S1.out.msg (by rw [List.size_toArray, HDS.out]; kernel_rfl) (by simp [HDS.out, HNS.out]) HD1.out ?_
  replace hS := And.intro (Whole.farRow hS.1 (show B ≠ B + 1 + 1 by omega) DL.toArray) (Whole.farRow hS.2 (show g ≠ B + 1 + 1 by omega) DL.toArray)
  replace S1 := Lib.hid (S1.out.setMsg DL)
  replace S3 := Lib.hid (own_row S3.out (show B + 1 + 1 < B + 1 + 1 + 1 by omega) DL.toArray)
  refine hKK.out _ _ hS ?_
  clear hKK KK
  try simp only [Act.put]
  refine take 4 _ rfl (by kernel_rfl) (by kernel_rfl) (by kernel_rfl) (fun _ _ _ h => h) (by rfl) hS (by intro w _; go_simp; with_reducible rfl) ?_
  try simp only [Act.put, List.setIfInBounds_toArray, List.set_cons_zero, List.set_cons_succ]
  refine region_end (by kernel_rfl) ?_
  go_wp2_with fail
  refine bodyPost_ret (results3 rfl _ _ (B + 1) 34 _ _ rfl S1.out.res rfl rfl (by rw [HS'.out]; kernel_rfl) (B + 1 + 1) 40 _ _ rfl S1.out.msg rfl rfl (by rw [HDS.out]; kernel_rfl)) rfl ?_
  exact ⟨A', c', by rw [HDL.out]; rfl, by rw [HB.out]; exact S3.out.more (by omega), by rw [HB.out]; exact S1.out.bel⟩

end Pr
end Go.Proofs.Ytdhjgenijieeaaa
