/- Words of package text: at a text that may be. -/
import Derived.Test.YtdcpbojknondcaaDoorTextIter
namespace Go.Proofs.YtdcpbojknondcaaDoor
namespace Text
open Go.RowKit Go.Shelf

attribute [local go_sem] Oper.semAt_some

theorem Keeps.of_heap {Bs : Nat} {W W' : World} (h : W.heap[Bs]? = W'.heap[Bs]?) : Keeps Bs W W' := by
  intro v hv
  rw [← hv]
  unfold World.cell?
  rw [h]
theorem keeps_t {Bs : Nat} {A B C : World} (h : Keeps Bs A B) (k : Keeps Bs B C) : Keeps Bs A C := fun v hv => k v (h v hv)
theorem keeps_b {Bs : Nat} {w : World} (hn : Bs < w.heap.size) (W : World) (l : Nat) (o o' : Obj) (hl : w.heap.size ≤ l) (_ : W.heap[l]? = some o) (_ : o.isCells = false) (_ : o.isWalk = false) : Keeps Bs W (W.putObj l o') :=
  Keeps.of_heap (World.putObj_heap_other (by omega)).symm

theorem appended2 {W w1 : World} {n₀ n1 B : Nat} {t e : TypeId} {size : Nat} {v v' : Value} {k m : Nat} {xs ys : List Value} {tmp : Obj}
    (hv : Boxed W B t v) (hte : t ≠ e) (hrow : W.ownsRow n₀ e size v k xs) (hn : n1 ≤ n₀) (hn₀ : n₀ ≤ W.heap.size) (hB : n1 ≤ B)
    (hown' : w1.ownsRow n₀ e size v' m ys) (hgrow : (W.alloc tmp).grownBy w1 v.ownBlock) :
    Boxed w1 B t v ∧ Boxed (w1.setCell ⟨B, 0, none⟩ v') B t v' ∧ (w1.setCell ⟨B, 0, none⟩ v').ownsRow n₀ e size v' m ys ∧ KeepsOthers W (w1.setCell ⟨B, 0, none⟩ v') ∧ Below n1 W (w1.setCell ⟨B, 0, none⟩ v') ∧
      ∀ Bs, Bs < n₀ → Bs ≠ B → Keeps Bs W (w1.setCell ⟨B, 0, none⟩ v') := by
  have hv1 : Boxed w1 B t v := (hv.alloc tmp).kept hgrow (hv.not_row hte hrow)
  have hob : ∀ j, v.ownBlock = some j → n₀ ≤ j := by
    intro j ej
    rcases hrow.2 with ⟨rfl, _⟩ | ⟨g, cap, cur, rfl, hb, _, _⟩
    · simp [Value.ownBlock] at ej
    · obtain rfl : g = j := by simpa [Value.ownBlock] using ej
      exact hb
  refine ⟨hv1, hv1.set v', hown'.kept (grownBy_setCell' w1 B v') (.inr (hv1.not_row hte hown').symm), ?_, ?_, ?_⟩
  · refine ((KeepsOthers.alloc W tmp).trans (KeepsOthers.of_grownBy hgrow fun j o ej hj => ?_)).trans (KeepsOthers.setCell _ _ _)
    rcases (hrow.alloc tmp).2 with ⟨rfl, _⟩ | ⟨g, cap, cur, rfl, _, hgb, _⟩
    · simp [Value.ownBlock] at ej
    · obtain rfl : g = j := by simpa [Value.ownBlock] using ej
      rw [hgb] at hj; cases hj; rfl
  · exact (((Below.refl n1 W).alloc (by omega) tmp).grown hgrow (by simp; omega) fun j ej => Nat.le_trans hn (hob j ej)).setCell (p := ⟨B, 0, none⟩) hB v'
  · intro Bs h1 h2
    apply Keeps.of_heap
    have e1 : (W.alloc tmp).heap[Bs]? = W.heap[Bs]? := Below.heap_alloc _ _ _ (by omega)
    have e2 := hgrow.block Bs (by simp; omega) (fun e => by have := hob Bs e.symm; omega)
    have e3 := (grownBy_setCell' w1 B v').block Bs (by have := hgrow.size; simp at this; omega) (fun e => h2 (by simpa using e))
    exact (e3.trans (e2.trans e1)).symm

theorem info9 : (Tryd.prog.info? 9).map (fun i => (i.zero, i.size, i.bytes)) = some (some (.string ⟨#[]⟩), 1, 16) := by kernel_rfl

theorem clip_in (F : Fence) (n : Nat) (h5 : F.fn 23) (hro : F.round = none) (a : Option Addr) (len cap : Nat) (hl : len ≤ cap) (w : World) :
    CallsIn F n Tryd.prog 23 #[.slice a len cap] w fun e w' => e = .returned (.slice a len len) ∧ w' = w := by
  refine callsIn_of_wp Tryd.func23 rfl h5 ?_ hro
  simp only [Tryd.ntmps23, List.size_toArray, List.length_cons, List.length_nil, Nat.reduceAdd, Nat.reduceSub, Array.replicate_succ, Array.replicate_zero, List.push_toArray, List.append_toArray, List.nil_append, List.cons_append]
  have hA : (0 : Int) ≤ (len : Int) := Int.natCast_nonneg _
  have hB : (len : Int) ≤ (cap : Int) := Int.ofNat_le.2 hl
  have hC : (len : Int) ≤ (len : Int) := Int.le_refl _
  gi_wp2
  go_ret
  exact ⟨rfl, rfl⟩

/-- a row of strings of a slice's own, whose capacity is its length -/
def Clipped (W : World) (base : Nat) (v : Value) (xs : List ByteArray) : Prop :=
  ∃ a cap, v = .slice a xs.length xs.length ∧ W.ownsRow base 9 1 (.slice a xs.length cap) xs.length (xs.map Value.string) ∧ (a = none ↔ xs = []) ∧ xs.length ≤ cap

theorem owns_slice {W : World} {base e size : Nat} {v : Value} {k : Nat} {xs : List Value} (h : W.ownsRow base e size v k xs) : ∃ a cap, v = .slice a k cap ∧ k ≤ cap := by
  rcases h.2 with ⟨rfl, rfl⟩ | ⟨g, cap, cur, rfl, _, _, hl, _⟩
  · exact ⟨none, 0, rfl, Nat.le_refl _⟩
  · exact ⟨some ⟨g, 0, none⟩, cap, rfl, hl⟩

theorem owns_base {W : World} {base base' e size : Nat} (hb : base ≤ base') {v : Value} {k : Nat} {xs : List Value} (h : W.ownsRow base' e size v k xs) : W.ownsRow base e size v k xs := by
  refine ⟨h.1, ?_⟩
  rcases h.2 with h | ⟨g, cap, cur, h1, h2, h3⟩
  · exact .inl h
  · exact .inr ⟨g, cap, cur, h1, Nat.le_trans hb h2, h3⟩

theorem iter_stops (F : Fence) (n : Nat) (h7 : F.fn 28) (hro : F.round = none) (hn : 1 ≤ n) (Bs : Nat) (s : ByteArray) (hs : s.size ≤ 65536) (w : World) (hBs : Bs < w.heap.size) (hc : w.cell? ⟨Bs, 0, none⟩ = some (.string s)) :
    SeqStopsK F n Tryd.prog 28 #[.pointer (some ⟨Bs, 0, none⟩)] (fun x : ByteArray => #[Value.string x]) (Keeps Bs) (fun ys => ys = wordsL s) (fun pre => pre <+: wordsL s) (wordsL s).length w := fun l J Jx W hW _ _ hY h0 =>
  iter_in F n h7 hro hn l Bs s hs J Jx hY W ((hW.cell (p := ⟨Bs, 0, none⟩) hBs).trans hc) h0

set_option maxRecDepth 100000 in
set_option maxHeartbeats 2000000 in
theorem words_in (F : Fence) (n : Nat) (h1 : F.fn 15) (h2 : F.fn 22) (h3 : F.fn 28) (h4 : F.fn 23) (hro : F.round = none) (hn : 3 ≤ n) (s : ByteArray) (hs : s.size ≤ 65536)
    (hv : ∀ i, i < s.size → 32 ≤ Mem.chr s i ∧ Mem.chr s i ≤ 126) (w : World) :
    CallsIn F n Tryd.prog 15 #[.string s] w fun e W' => ∃ v, e = .returned (.tuple #[v, .int .i64 0]) ∧ Clipped W' w.heap.size v (wordsL s) ∧ Below w.heap.size w W' := by
  have hn1 : 1 ≤ n := by omega
  obtain ⟨i0, hi, hz0, hz1, hz2⟩ := info_parts info9
  refine callsIn_of_wp_marks Tryd.func15 rfl h1 ?_ hro
  simp only [Tryd.ntmps15, List.size_toArray, List.length_cons, List.length_nil, Nat.reduceAdd, Nat.reduceSub, Array.replicate_succ, Array.replicate_zero, List.push_toArray, List.append_toArray, List.nil_append, List.cons_append]
  have hL : (decide ((65536 : Int) < (s.size : Int))) = false := decide_eq_false (by omega)
  gi_wp2
  gi_loopw [12] (fun i wr => ∃ k : Nat, k ≤ s.size ∧ i = .int .i64 k ∧ wr = w)
    (fun i _ => s.size - (intOf i).toNat)
  case atStart => exact ⟨0, Nat.zero_le _, rfl, rfl⟩
  case round =>
    obtain ⟨k, hk, rfl, rfl⟩ := hrel
    by_cases hlt : k < s.size
    · have hN : (decide ((k : Int) < (s.size : Int))) = true := decide_eq_true (by omega)
      obtain ⟨hv1, hv2⟩ := hv k hlt
      rw [← Mem.chr_get s k hlt] at hv1 hv2
      have hC1 : (decide (((s[k].toNat : Nat) : Int) < 32)) = false := decide_eq_false (by omega)
      have hC2 : (decide ((126 : Int) < ((s[k].toNat : Nat) : Int))) = false := decide_eq_false (by omega)
      gi_wp2
      refine ⟨⟨k + 1, by omega, rfl, trivial⟩, ?_⟩
      show s.size - ((k : Int) + 1).toNat < s.size - (k : Int).toNat
      omega
    · obtain rfl : k = s.size := by omega
      gi_wp2_with (gi_at_call 22; refine (between_in F (n - 1) h2 hro s _).mono ?_; rintro e w' ⟨rfl, rfl⟩)
      have bO := Boxed.new wr 37 (.slice none 0 0)
      have bN := Boxed.new (wr.alloc (.cells #[.slice none 0 0] 37)) 9 (.string s)
      rw [World.size_alloc] at bN
      have hB0 : Below wr.heap.size wr ((wr.alloc (.cells #[.slice none 0 0] 37)).alloc (.cells #[.string s] 9)) := ((Below.refl _ wr).alloc (Nat.le_refl _) _).alloc (by simp) _
      have hlw : (wordsL s).length ≤ 65537 := Nat.le_trans (wst_len s (s.size + 1)) (by omega)
      refine wpIn_rangeFunc_ownG hro hn1 (gf := 28) (lb := #[.pointer (some ⟨wr.heap.size + 1, 0, none⟩)]) rfl h3 (enters_of Tryd.func28 (by kernel_rfl) rfl)
        (iter_stops F (n - 1) h3 hro (by omega) (wr.heap.size + 1) s hs _ (by simp) bN.cell) keeps_t (keeps_b (by simp)) (Below.refl _ _) (fun _ => rfl)
        (fun pre W => (∃ v, Boxed W wr.heap.size 37 v ∧ W.ownsRow (wr.heap.size + 2) 9 1 v pre.length (pre.map Value.string) ∧ (v = .slice none 0 0 ↔ pre = [])) ∧ Below wr.heap.size ((wr.alloc (.cells #[.slice none 0 0] 37)).alloc (.cells #[.string s] 9)) W)
        (fun _ _ _ => False)
        (OwnFrom.and (Own.from (holdsRow_own (wr.heap.size + 2) wr.heap.size 37 9 1 (fun pre => pre.length) (fun pre => pre.map Value.string) (fun pre v => v = .slice none 0 0 ↔ pre = [])) _) (ownFrom_below (by simp; omega) (by simp; omega)))
        (fun _ _ _ _ _ hs _ _ => hs)
        ⟨⟨_, bO.alloc _, World.ownsRow_nil _ _ _ _, by simp⟩, Below.refl _ _⟩
        (fun x => { tmps := #[.string s, undef, u2, u3, u4, .pointer (some ⟨wr.heap.size, 0, none⟩), .string x, .string s, .int .i64 (s.size : Nat), .bool false, .string s, .int .i64 (s.size : Nat), .int .i64 (s.size : Nat), .bool false, u14, u15, u16, u17, u18, u19, u20, u21, u22, u23, u24, u25, .string s, .func (.func 28) #[] #[.pointer (some ⟨wr.heap.size + 1, 0, none⟩)], .string x, undef, undef, undef, undef, undef, undef], defers := [] }) ?assign ?body ?done ?stop
      case assign =>
        intro l x W K hK
        gi_wp2
        exact hK
      case body =>
        rintro l pre x W ⟨⟨v, hv, hrow, hnil⟩, hB⟩ hlt
        have hc := hv.cell
        have hsz : wr.heap.size + 2 ≤ W.heap.size := by have := hB.size; simp at this; omega
        have hM : pre.length + 1 ≤ maxLen := by unfold maxLen; omega
        gi_wp2_with (gi_at_builtin; refine wpListIn_append_own _ rfl _ _ 37 rfl (wr.heap.size + 2) 9 i0 (.string ⟨#[]⟩) 1 16 Tryd.underlying37 hi hz0 hz1 hz2 rfl (by decide) _ _ _ rfl (hrow.alloc _) ⟨W.heap.size, 0, none⟩ 1 1 [.string x] rfl rfl (cell_one_new _ _ _) (by simp [Value.oneCell']) hM (by omega) (by simp; omega) ?_; intro v' w1 hown' hgrow _; obtain ⟨g', cap', rfl⟩ := ownsRow_succ hown'; obtain ⟨hv1, hv2, hr2, hk2, hb2, hkp⟩ := appended2 hv (by decide) hrow (Nat.le_add_right wr.heap.size 2) hsz (Nat.le_refl _) hown' hgrow; have hc1 := hv1.cell; have hf1 := hv1.frozen)
        exact ⟨hk2.from _, hkp _ (by omega) (by omega), ⟨_, hv2, by simpa using hr2, by simp⟩, hB.trans hb2⟩
      case done =>
        rintro D ys W hD rfl ⟨⟨v, hv, hrow, hnil⟩, hB⟩ hK
        obtain ⟨ad, cap, rfl, hcap⟩ := owns_slice hrow
        have hc := hv.cell
        gi_wp2_with (gi_at_call 23; refine (clip_in F (n - 1) h4 hro ad _ cap hcap _).mono ?_; rintro e w' ⟨rfl, rfl⟩)
        refine ⟨by simp, .inl ⟨_, _, rfl, run_takeDeferred hK, ?_⟩⟩
        refine ⟨_, results_tmp2 rfl _ _ _, _, rfl, ⟨ad, cap, rfl, ownsRow_putObj (owns_base (Nat.le_add_right _ 2) hrow) _ hK rfl, ?_, hcap⟩, (hB0.trans hB).trans (belowK_b (w := wr) (Nat.le_refl _) w' D _ _ (by simp at hD; omega) hK rfl rfl)⟩
        rw [← hnil]
        rcases hrow.2 with ⟨h, _⟩ | ⟨g, c, cur, h, _⟩ <;> injection h with e1 e2 e3 <;> subst e1 <;> simp_all
      case stop =>
        rintro D c pre W _ _ h _
        exact h.elim

/-- the first k bytes may stand in a text -/
def seenTo (s : ByteArray) (k : Nat) : Bool := (List.range k).all fun i => decide (32 ≤ Mem.chr s i) && decide (Mem.chr s i ≤ 126)
theorem seen_at {s : ByteArray} {k n : Nat} (h : seenTo s n = true) (hk : k < n) : 32 ≤ Mem.chr s k ∧ Mem.chr s k ≤ 126 := by
  unfold seenTo at h
  rw [List.all_eq_true] at h
  have := h k (List.mem_range.2 hk)
  simpa using this
theorem seen_step (s : ByteArray) (k : Nat) : seenTo s (k + 1) = (seenTo s k && (decide (32 ≤ Mem.chr s k) && decide (Mem.chr s k ≤ 126))) := by
  unfold seenTo
  rw [List.range_succ, List.all_append]
  simp

theorem words_long (s : ByteArray) (hs : 65536 < s.size) (w : World) : Calls Tryd.prog 15 #[.string s] w fun e w' => e = .returned (.tuple #[.slice none 0 0, .int .i64 2]) ∧ w' = w := by
  have hL : (decide ((65536 : Int) < (s.size : Int))) = true := decide_eq_true (by omega)
  go_enter Tryd.func15, Tryd.ntmps15
  go_wp2
  go_ret2
  exact ⟨rfl, rfl⟩

set_option maxRecDepth 100000 in
set_option maxHeartbeats 2000000 in
theorem words_byte (s : ByteArray) (hs : s.size ≤ 65536) (hv : seenTo s s.size = false) (w : World) : Calls Tryd.prog 15 #[.string s] w fun e w' => e = .returned (.tuple #[.slice none 0 0, .int .i64 11]) ∧ w' = w := by
  have hL : (decide ((65536 : Int) < (s.size : Int))) = false := decide_eq_false (by omega)
  go_enter Tryd.func15, Tryd.ntmps15
  go_wp2
  go_loopw [12] (fun i wr => ∃ k : Nat, k ≤ s.size ∧ i = .int .i64 k ∧ seenTo s k = true ∧ wr = w)
    (fun i _ => s.size - (intOf i).toNat)
  case atStart => exact ⟨0, Nat.zero_le _, rfl, rfl, rfl⟩
  case round =>
    obtain ⟨k, hk, rfl, hd, rfl⟩ := hrel
    by_cases hlt : k < s.size
    · have hN : (decide ((k : Int) < (s.size : Int))) = true := decide_eq_true (by omega)
      have hst := seen_step s k
      rw [hd, ← Mem.chr_get s k hlt] at hst
      by_cases h1 : s[k].toNat < 32
      · have hC1 : (decide (((s[k].toNat : Nat) : Int) < 32)) = true := decide_eq_true (by omega)
        go_wp2
        go_ret2
        exact ⟨rfl, rfl⟩
      · have hC1 : (decide (((s[k].toNat : Nat) : Int) < 32)) = false := decide_eq_false (by omega)
        by_cases h2 : 126 < s[k].toNat
        · have hC2 : (decide ((126 : Int) < ((s[k].toNat : Nat) : Int))) = true := decide_eq_true (by omega)
          go_wp2
          go_ret2
          exact ⟨rfl, rfl⟩
        · have hC2 : (decide ((126 : Int) < ((s[k].toNat : Nat) : Int))) = false := decide_eq_false (by omega)
          go_wp2
          refine ⟨⟨k + 1, by omega, rfl, by rw [hst]; simp; omega, trivial⟩, ?_⟩
          show s.size - ((k : Int) + 1).toNat < s.size - (k : Int).toNat
          omega
    · obtain rfl : k = s.size := by omega
      rw [hv] at hd
      cases hd

/-- Words, at a text that may be -/
theorem words_ok (s : ByteArray) (hs : s.size ≤ 65536) (hv : seenTo s s.size = true) (w : World) :
    Calls Tryd.prog 15 #[.string s] w fun e W' => ∃ v, e = .returned (.tuple #[v, .int .i64 0]) ∧ Clipped W' w.heap.size v (wordsL s) ∧ Below w.heap.size w W' :=
  callsIn_wide.1 (words_in Fence.wide 3 trivial trivial trivial trivial rfl (Nat.le_refl _) s hs (fun _ h => seen_at hv h) w)

end Text
end Go.Proofs.YtdcpbojknondcaaDoor
