/- The document's own yard: Put. -/
import Derived.Test.YtbmabfnjjflbnaaYrTake
import Derived.Deep.DeepCutAuto
namespace Go.Proofs.Ytbmabfnjjflbnaa
namespace Yd
open Go.ChangeShapes Go.WideShapes Go.ChangeAt Go.RowKit Go.Maps
open Num Mem Words Chacha Aead Poly Quiet RowV RowS

/-- what the document's yard's calls leave alone -/
structure Rk (B : Nat) (w w' : World) : Prop where
  os : w'.os = w.os
  tape : w'.tape = w.tape
  output : w'.output = w.output
  size : w.heap.size ≤ w'.heap.size
  block : ∀ i, i < w.heap.size → (i < B ∨ ∀ t cs, Whole w i t cs → t ≠ 59 ∧ t ≠ 29) → w'.heap[i]? = w.heap[i]?
theorem Rk.refl (B : Nat) (w : World) : Rk B w w := ⟨rfl, rfl, rfl, Nat.le_refl _, fun _ _ _ => rfl⟩
theorem Rk.trans {B : Nat} {x y z : World} (h : Rk B x y) (k : Rk B y z) : Rk B x z := by
  refine ⟨k.os.trans h.os, k.tape.trans h.tape, k.output.trans h.output, Nat.le_trans h.size k.size, fun i hi hf => ?_⟩
  have e := h.block i hi hf
  refine (k.block i (Nat.lt_of_lt_of_le hi h.size) ?_).trans e
  rcases hf with hf | hf
  · exact .inl hf
  · exact .inr fun t cs hw => hf t cs (e.symm.trans hw)
theorem Rk.of_below {B : Nat} {w w' : World} (h : Below w.heap.size w w') : Rk B w w' := ⟨h.os, h.tape, h.output, h.size, fun i hi _ => h.block i hi⟩
theorem Rk.of_grown {B : Nat} {w w' : World} {row : Option Nat} (h : w.grownBy w' row) (hr : ∀ k, row = some k → B ≤ k ∧ ∃ t cs, Whole w k t cs ∧ (t = 59 ∨ t = 29)) : Rk B w w' := by
  refine ⟨h.os, h.tape, h.output, h.size, fun i hi hf => h.block i hi fun e => ?_⟩
  obtain ⟨hB, t, cs, hw, ht⟩ := hr i e.symm
  rcases hf with hf | hf
  · omega
  · have := hf t cs hw
    rcases ht with ht | ht
    · exact this.1 ht
    · exact this.2 ht
theorem Rk.below {B : Nat} {w w' : World} (h : Rk B w w') (hB : B ≤ w.heap.size) : Below B w w' := ⟨h.os, h.tape, h.output, h.size, fun i hi => h.block i (Nat.lt_of_lt_of_le hi hB) (.inl hi)⟩
theorem Rk.whole {B : Nat} {w w' : World} (h : Rk B w w') {i : Nat} {t : TypeId} {cs : Array Value} (hw : Whole w i t cs) (h1 : t ≠ 59) (h2 : t ≠ 29) : Whole w' i t cs :=
  (h.block i hw.lt (.inr fun u ds hd => by rw [← whole_type hw hd]; exact ⟨h1, h2⟩)).trans hw
theorem YW.keepR {w w' : World} {B g b last thrown C : Nat} {Y : Int → List Pk} (h : YW w B g b Y last thrown) (hr : Rk C w w') : YW w' B g b Y last thrown := by
  obtain ⟨D, m, h, hF⟩ := h
  refine ⟨D, m, ⟨hr.whole h.obj (by decide) (by decide), ?_, h.ag, fun o r hm => ?_, h.inj, h.dom, h.bg, h.bb⟩, hF⟩
  · have hlt := h.own.lt
    obtain ⟨es, clock, hb, hF, hs, hD⟩ := h.own
    exact ⟨es, clock, (hr.block b hlt (.inr fun t cs hw => by unfold Whole at hw; rw [hb] at hw; cases hw)).trans hb, hF, hs, hD⟩
  · obtain ⟨⟨cs', p, hr'⟩, hB⟩ := h.ring o r hm
    exact ⟨⟨cs', p, hr'.keep (fun _ _ e => hr.whole e (by decide) (by decide)) (hr.whole hr'.blk (by decide) (by decide))⟩, hB⟩
theorem RY.keepY {w w' : World} {B C x next thrown : Nat} {R : List RPk} (h : RY w B x R next thrown) (hy : Yk C w w') : RY w' B x R next thrown := h.keep fun i t cs e ht => hy.whole e (by rcases ht with rfl | rfl | rfl <;> decide) (by rcases ht with rfl | rfl | rfl <;> decide)

/-- append of one packet, the row it is appended to alone written -/
theorem wp_pushR {o : Oper} {a : Act} {K : Act → World → Prop} {Q : Exit → Act → World → Prop} {w : World} {B k c : Nat} {A : Option Addr} {xs : List Value} (us : List Value) (s y : Operand)
    (ho : o.op = .call { callee := .builtin .append, args := #[s, y], argTypes := #[26, 26] })
    (hs : a.eval s = .slice A k c) (hx : a.eval y = .slice (some ⟨w.heap.size, 0, none⟩) 1 1) (own : w.ownsRow B 59 3 (.slice A k c) k xs) (hB : B ≤ w.heap.size)
    (hl : us.length = 3) (h1 : ∀ u ∈ us, u.oneCell' = true) (hk : k ≤ 1000000)
    (h : ∀ A' c' w', w'.ownsRow B 59 3 (.slice A' (k + 1) c') (k + 1) (xs ++ us) → (w.alloc (.cells us.toArray 59)).grownBy w' (Value.slice A k c).ownBlock → K (a.put o.dst (.slice A' (k + 1) c')) w') :
    Oper.wp Try.prog o a (w.alloc (.cells us.toArray 59)) K Q := by
  obtain ⟨i0, hi, hz0, hz1, hz2⟩ := info_parts infoR
  refine wp_append_own _ s y 26 ho B 59 i0 (.agg zeroR.toArray) 3 40 Try.underlying26 hi hz0 hz1 hz2 rfl (by decide) (.slice A k c) k xs hs (World.ownsRow.alloc own _) ⟨w.heap.size, 0, none⟩ 1 1 us hx (by rw [Nat.one_mul]; exact hl) (news_new _ _ _)
    h1 (by have : maxLen = 9223372036854775807 := rfl; omega) (by omega) (Nat.le_trans hB (by simp)) ?_
  intro v' w' g1 g2 _
  rcases g1.2 with ⟨_, h0⟩ | ⟨g, cap, cur, rfl, r⟩
  · omega
  · exact h _ _ w' g1 g2
theorem RYC.pushed {X w3 : World} {B x k thrown : Nat} {R : List RPk} {A A2 : Option Addr} {c c2 : Nat} (h : RYC X B x R A c k thrown) (p : RPk) (hp : X.ownsRow B 5 1 (.slice p.A p.x.len p.c) p.x.len (byteCells p.x.f p.x.len)) (hb : (∀ i, p.x.f i < 256) ∧ p.x.len ≤ 1500) (o : Obj)
    (hown : w3.ownsRow B 59 3 (.slice A2 (R.length + 1) c2) (R.length + 1) (flatR R ++ rpL p)) (hg : (X.alloc o).grownBy w3 (Value.slice A R.length c).ownBlock) :
    Whole w3 x 29 #[.slice A R.length c, .int .u64 (k : Nat), .int .u64 (thrown : Nat)] ∧ RYC (w3.setCell ⟨x, 0, none⟩ (.slice A2 (R.length + 1) c2)) B x (R ++ [p]) A2 c2 k thrown ∧ Rk B X (w3.setCell ⟨x, 0, none⟩ (.slice A2 (R.length + 1) c2)) := by
  have hrow : ∀ i, (Value.slice A R.length c).ownBlock = some i → B ≤ i ∧ ∃ cs, Whole X i 59 cs := by
    intro i hi
    rcases h.row.2 with ⟨h0, _⟩ | ⟨g, cap, cur, e1, hB, hh, _⟩
    · rw [h0] at hi; cases hi
    · rw [e1] at hi
      injection hi with hi
      subst hi
      exact ⟨hB, cur, hh⟩
  have hst : ∀ {i : Nat} {t : TypeId} {cs : Array Value}, Whole X i t cs → t ≠ 59 → Whole w3 i t cs := fun {i t cs} e ht => by
    refine (hg.block i (Nat.lt_of_lt_of_le e.lt (by simp)) fun hi => ?_).trans (e.alloc o)
    obtain ⟨_, ds, hd⟩ := hrow i hi.symm
    exact ht (whole_type e hd)
  have hobj := hst h.obj (by decide)
  have hfar : ∀ {i : Nat} {t : TypeId} {cs : Array Value} (v : Value), Whole w3 i t cs → t ≠ 29 → Whole (w3.setCell ⟨x, 0, none⟩ v) i t cs := fun v e ht => e.far (by rintro rfl; exact ht (whole_type e hobj)) v
  have hlen : (R ++ [p]).length = R.length + 1 := by rw [List.length_append]; rfl
  refine ⟨hobj, ⟨by rw [hlen]; exact hobj.put 0 _, by rw [hlen, flatR_append, flatR_one]; exact own_stays hown (fun i cs e => hfar _ e (by decide)), fun q hq => ?_, fun q hq => ?_, h.bx⟩, ?_⟩
  · rcases List.mem_append.1 hq with hq | hq
    · exact own_stays (h.own q hq) (fun i cs e => hfar _ (hst e (by decide)) (by decide))
    · rw [List.mem_singleton] at hq
      subst hq
      exact own_stays hp (fun i cs e => hfar _ (hst e (by decide)) (by decide))
  · rcases List.mem_append.1 hq with hq | hq
    · exact h.bnd q hq
    · rw [List.mem_singleton] at hq
      subst hq
      exact hb
  · refine (Rk.of_below (B := B) (below_alloc (Below.refl _ _) o)).trans ((Rk.of_grown hg fun i hi => ?_).trans (Rk.of_grown (grown_set1 w3 x 0 _) fun i hi => ?_))
    · obtain ⟨hB, cs, hd⟩ := hrow i hi
      exact ⟨hB, _, cs, hd.alloc o, .inl rfl⟩
    · injection hi with hi
      subst hi
      exact ⟨h.bx, _, _, hobj, .inr rfl⟩

set_option maxRecDepth 100000 in
theorem rcopy_any (A : Option Addr) (n c : Nat) (f : Nat → Nat) (hn : n ≤ 1000000) (hnil : A = none → n = 0 ∧ c = 0) (w : World) (hr : Rd w A n f) :
    Calls Try.prog 26 #[.slice A n c] w fun e w' => ∃ A' c', e = .returned (.slice A' n c') ∧ Own w' w.heap.size 5 A' n c' f ∧ Below w.heap.size w w' := by
  have HSR := Lib.hid (src_rd (c := c) hr hnil)
  clear hr hnil
  go_enter Try.func26, Try.ntmps26
  go_wp2_with (at_builtin; refine wpList_catFrom (W := w) (T := f) (f := f) rfl (.tmp 4) (.tmp 5) 30 5 (.int .u8 0) 1 Try.underlying30 (by kernel_rfl) rfl rfl rfl (Own.nil w w.heap.size 5 f) (Below.refl _ _) (Nat.le_refl _) n c A rfl HSR.out (by omega) (by omega) (fun i hi => by rw [if_neg (by omega)]; rfl) ?_; intro A3 c3 w5 h1 h2 h3 _ _; have H1 := Lib.hid h1; have H2 := Lib.hid h2; clear h1 h2)
  rw [Nat.zero_add] at H1
  go_ret
  exact ⟨A3, c3, rfl, H1.out, H2.out⟩
end Yd
end Go.Proofs.Ytbmabfnjjflbnaa
