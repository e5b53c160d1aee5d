/- Package trie: Count. -/
import Derived.Test.YtcpfchfhcfdcpaaTrHold
namespace Go.Proofs.Ytcpfchfhcfdcpaa
namespace Tri
open Go.ChangeShapes Go.WideShapes Go.ChangeAt Go.RowKit Go.Shelf
open Num Mem Words Chacha Aead Poly Quiet Ops Adr

attribute [local go_sem] Oper.semAt_some

theorem Whole.kc {n₀ : Nat} {X Y : World} {g : Nat} {t : TypeId} {cs : Array Value} (h : Whole X g t cs) (k : KC n₀ X Y) : Whole Y g t cs := k.same _ _ h rfl
theorem keeps_of_below {B : Nat} {X Y : World} (h : Below X.heap.size X Y) : KeepsFrom B X Y := ⟨h.size, fun k _ _ hk _ => (h.block k (Array.getElem?_eq_some_iff.1 hk).1).trans hk⟩
theorem keeps_set {B : Nat} (X : World) (p : Addr) (v : Value) : KeepsFrom B X (X.setCell p v) := (KeepsOthers.setCell X p v).from B
theorem sm_none {X Y : World} : Sm (fun _ => False) X Y := fun _ h => h.elim
theorem keeps_row {B : Nat} {X : World} {g : Nat} {t : TypeId} {old : Array Value} (h : Whole X g t old) (cs : Array Value) : KeepsFrom B X (X.setRow g cs) :=
  ⟨(grown_setRow X g cs).size, fun k o _ hk ho => by
    by_cases e : k = g
    · subst e
      have h2 : X.heap[k]? = some (.cells old t (0, 0)) := h
      rw [h2] at hk
      cases hk
      cases ho
    · exact (setRow_other X g k cs e).trans hk⟩
theorem sm_row {G : Nat → Prop} (X : World) {g : Nat} (hg : ∀ k, G k → k ≠ g) (cs : Array Value) : Sm G X (X.setRow g cs) := fun k hk => setRow_other X g k cs (hg k hk)
theorem sm_below {G : Nat → Prop} {X Y : World} {B : Nat} (hG : ∀ k, G k → k < B) (h : Below B X Y) : Sm G X Y := fun k hk => h.block k (hG k hk)
theorem below_var (w : World) (zs cs : Array Value) (t : TypeId) : Below w.heap.size w ((w.alloc (.cells zs t)).setRow w.heap.size cs) := below_setRow (below_alloc (Below.refl _ _) _) (Nat.le_refl _) _
/-- nothing but the end -/
def NoEx (Q : Exit → Act → World → Prop) : Exit → Act → World → Prop
  | .normal, a, w => Q .normal a w
  | _, _, _ => False
theorem wpIn_norm {F : Fence} {n : Nat} {P : Program} {c : Code} {Q : Exit → Act → World → Prop} {a : Act} {w : World} (h : c.wpIn F n P (NoEx Q) a w) : c.wpIn F n P Q a w := wpIn_mono h fun e _ _ h => by
  cases e <;> first | exact h | exact h.elim
theorem listIn_store {F : Fence} (hF : ∀ f, F.fn f) {n : Nat} {P : Program} {ops : Array Oper} {rest : List Oper} {o : Oper} {a : Act} {w : World} {Q : Exit → Act → World → Prop} (hgd : o.guard = none) (ty : TypeId) (x y : Operand) (ho : o.op = .store ty x y) (g : Nat) (cells : Array Value) (hx : a.eval x = .pointer (some ⟨g, 0, none⟩)) (hy : a.eval y = .agg cells) {t : TypeId} {old : Array Value} (hg : Whole w g t old)
    (hi : (P.info? ty).map (·.size) = some cells.size) (hold : old.size = cells.size) (h1 : cells.all (·.oneCell') = true) (h : wpListIn F n P ops Q rest (a.put o.dst undef) (w.setRow g cells)) : wpListIn F n P ops Q (o :: rest) a w :=
  wpListIn_plain hgd fun K hK => ⟨fun f _ => hF f, by
    rw [Oper.semAt_plain F _ _ (by rw [ho]; intro c h; cases h)]
    unfold execOp
    simp only [ho, hx, hy, Instr.storeAt, Instr.sureAddr, Sem.run_bind, Sem.run_pure, Result.andThen_ok, run_storeVar_row w g t ty old cells hg hi hold h1]
    exact hK _ _ h⟩
set_option maxRecDepth 100000 in
theorem holding_any (q : Option Nat) (s : Bool) (f : Nat → Nat) (w : World) : Calls Try.prog 27 #[ptrV q, .agg (addrL s f).toArray] w fun e w' => e = .returned (.func (.func 41) #[] #[.pointer (some ⟨w.heap.size, 0, none⟩), .pointer (some ⟨w.heap.size + 1, 0, none⟩)]) ∧ w' = (w.alloc (.cells #[ptrV q] 23)).alloc (.cells (addrL s f).toArray 27) := by
  have hq : ∃ a, ptrV q = .pointer a := by cases q; exact ⟨_, rfl⟩; exact ⟨_, rfl⟩
  obtain ⟨a, ha⟩ := hq
  rw [ha]
  clear ha
  obtain ⟨L, hL⟩ : ∃ L, (addrL s f).toArray = L := ⟨_, rfl⟩
  rw [hL]
  clear hL
  go_enter Try.func27, Try.ntmps27
  go_wp2
  go_ret
  exact ⟨by simp, rfl⟩
theorem isTrie_ptr (q : Option Nat) : ∃ a, ptrV q = .pointer a := by cases q; exact ⟨_, rfl⟩; exact ⟨_, rfl⟩
set_option maxRecDepth 100000 in
set_option maxHeartbeats 8000000 in
theorem count_any {A : Nat → Prop} {w : World} {ta tb : Tr} {q : Option Nat} (h : IsTrie A w ta tb q) (hlen : (routes2 ta tb).length ≤ 1000) : Calls Try.prog 14 #[ptrV q] w fun e w' => e = .returned (.int .i64 ((routes2 ta tb).length : Nat)) ∧ Below w.heap.size w w' := by
  have HT := Lib.hid h.here
  have HALL := Lib.hid (fun X => callsIn_wide.2 (all_any q X) : ∀ X, CallsIn Fence.wide (3 - 1) _ _ _ X _)
  have HTELL := Lib.hid (fun (X : World) (Bt : Nat) (hc : X.cell? ⟨Bt, 0, none⟩ = some (ptrV q)) (hb : Bt < X.heap.size) (hT : IsTrie (fun i => i < w.heap.size) X ta tb q) => all_tells w.heap.size X Bt q ta tb hc hb hT)
  obtain ⟨L, hL⟩ : ∃ L, routes2 ta tb = L := ⟨_, rfl⟩
  rw [hL] at HTELL hlen ⊢
  clear hL h
  obtain ⟨pq, hpq⟩ : ∃ pq, ptrV q = pq := ⟨_, rfl⟩
  rw [hpq] at HALL HTELL ⊢
  clear hpq
  refine (callsIn_wide (n := 3)).1 ?_
  have hdd : ∀ k : Nat, (Fence.wide.depth.isSome = true → 1 ≤ k) := fun k h => by cases h
  refine callsIn_of_wp_marks Try.func14 rfl trivial ?_ rfl
  simp only [Try.ntmps14, List.size_toArray, List.length_cons, List.length_nil, Nat.reduceAdd, Nat.reduceSub, Array.replicate_succ, Array.replicate_zero, List.push_toArray, List.append_toArray, List.nil_append, List.cons_append]
  gi_wp2_with ((try refine ⟨trivial, ?_⟩); (try refine ⟨hdd _, ?_⟩); gi_at_call 30; refine (HALL.out _).mono ?_; rintro e w' ⟨rfl, rfl⟩)
  have HW := Lib.hid (show Whole ((w.alloc (.cells #[.int .i64 0] 3)).alloc (.cells #[pq] 23)) w.heap.size 3 #[.int .i64 0] ∧ Below w.heap.size w ((w.alloc (.cells #[.int .i64 0] 3)).alloc (.cells #[pq] 23)) ∧ ((w.alloc (.cells #[.int .i64 0] 3)).alloc (.cells #[pq] 23)).cell? ⟨w.heap.size + 1, 0, none⟩ = some pq ∧ w.heap.size + 1 < ((w.alloc (.cells #[.int .i64 0] 3)).alloc (.cells #[pq] 23)).heap.size from
    ⟨(Whole.new _ _ _).alloc _, ((Below.refl _ w).alloc (Nat.le_refl _) _).alloc (by simp) _, by rw [(whole_new (w := w.alloc (.cells #[.int .i64 0] 3)) (g := w.heap.size + 1) _ _ (by simp)).cell]; rfl, by simp⟩)
  generalize (w.alloc (.cells #[.int .i64 0] 3)).alloc (.cells #[pq] 23) = W at HW ⊢
  have HTL := Lib.hid (HTELL.out W (w.heap.size + 1) HW.out.2.2.1 HW.out.2.2.2 (HT.out.low HW.out.2.1))
  clear HTELL HALL HT
  refine range_known (gf := 46) (lb := #[.pointer (some ⟨w.heap.size + 1, 0, none⟩)]) rfl (enters_of Try.func46 (by kernel_rfl) rfl) w.heap.size HW.out.2.1.size encRt (fun _ => rfl) L W (Below.refl _ _) (Below.refl _ _) (fun _ => False) (fun _ h => h.elim) HTL.out
    (fun pre X => Whole X w.heap.size 3 #[.int .i64 (pre.length : Nat)] ∧ Below w.heap.size w X) (fun _ _ => False) (fun pre X Y h k => ⟨Whole.kc h.1 k, h.2.trans k.low⟩) (fun _ _ _ h _ => h) ⟨HW.out.1, HW.out.2.1⟩ ?_ ?_ ?_
  · rintro l pre x X ⟨hw, hb⟩ hpre hsz
    have hlt := hpre.length_le
    rw [List.length_append, List.length_singleton] at hlt
    have HX := Lib.hid hw
    have HB := Lib.hid hb
    clear hw hb hpre HW HTL
    rw [show encRt x = #[.agg x.cells.toArray] from rfl, zip1]
    simp only [List.setIfInBounds_toArray, List.set_cons_zero, List.set_cons_succ]
    gi_wp2
    refine ⟨KeepsFrom.refl _ _, Below.refl _ _, sm_none, ?_⟩
    intro Y hk
    have HY := Lib.hid (show Whole Y w.heap.size 3 #[.int .i64 (pre.length : Nat)] ∧ Below w.heap.size w Y from ⟨Whole.kc HX.out hk, HB.out.trans hk.low⟩)
    have c1 : Y.cell? ⟨w.heap.size, 0, none⟩ = some (.int .i64 (pre.length : Nat)) := by rw [HY.out.1.cell]; rfl
    have f1 := HY.out.1.free 0
    clear hk HX HB hsz
    clear X
    gi_wp2
    refine ⟨keeps_set _ _ _, (Below.refl _ _).setCell (p := ⟨w.heap.size, 0, none⟩) (Nat.le_refl _) _, sm_none, ?_, HY.out.2.setCell (p := ⟨w.heap.size, 0, none⟩) (Nat.le_refl _) _⟩
    have := HY.out.1.put 0 (.int .i64 ((pre.length : Int) + 1))
    rw [List.length_append, List.length_singleton]
    exact this
  · rintro X ⟨hw, hb⟩ hd hsz
    have HX := Lib.hid hw
    have HB := Lib.hid hb
    have HD := Lib.hid hd
    have c1 : X.cell? ⟨w.heap.size, 0, none⟩ = some (.int .i64 (L.length : Nat)) := by rw [HX.out.cell]; rfl
    clear hw hb hd
    gi_wp2
    refine ⟨by simp, .inl ⟨_, _, rfl, run_takeDeferred HD.out, ?_⟩⟩
    exact ⟨_, results_tmp rfl _ _ _, rfl, HB.out.trans (KC.put _ HD.out rfl HW.out.2.1.size).low⟩
  · intro _ _ _ h
    exact h.elim
end Tri
end Go.Proofs.Ytcpfchfhcfdcpaa
