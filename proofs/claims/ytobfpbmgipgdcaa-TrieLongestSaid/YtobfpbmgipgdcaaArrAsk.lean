/- Arguments that are an address with a number behind it (a prefix, an Ask), and slices of such, opened to cells. -/
import Derived.Test.YtobfpbmgipgdcaaPref
import Derived.ChangeArms
import Derived.OpenShut
import Derived.WideShapes
import Derived.Deep.Slices
namespace Go.Proofs.Ytobfpbmgipgdcaa
namespace Arr
open Go.ChangeShapes Go.WideShapes Go.RowKit Mem Adr Go.Deep

theorem block_lt' {w : World} {p : Addr} {v : Value} (h : w.cell? p = some v) : p.block < w.heap.size := by
  rcases Nat.lt_or_ge p.block w.heap.size with k | k
  · exact k
  · exfalso
    unfold World.cell? at h
    rw [Array.getElem?_eq_none k] at h
    cases h
section
variable {H : Type} {enc : TypeId × Value → H} {P : Program} {W : World} {base : Nat} {spare : Nat → Bool} {held : Bool}

theorem trod_row16 {ta e : TypeId} {fuel : Nat} {cs : List Value} {x : DataW H × List MemPlace} (ha : P.underlying ta = some (.array 16 e)) (he : P.underlying e = some (.int .u8)) (hce : P.cellsOf e = 1) (hca : P.cellsOf ta = 16)
    (h : DataW.trod enc P W base spare held fuel ta cs = some x) : ∃ f : Nat → Nat, (∀ i, f i < 256) ∧ cs = byteCells f 16 := by
  obtain ⟨xs, m, _, _, hlen, hl, hy⟩ := DataW.trod_array ha h
  rw [hca] at hlen
  have key : ∀ i, i < 16 → ∃ a : Nat, cs[i]? = some (.int .u8 (a : Nat)) ∧ a < 256 := by
    intro i hi
    have hxi := hy i hi
    rw [hce, List.getElem?_eq_getElem (by omega)] at hxi
    obtain ⟨a, ea, _, wa⟩ := DataW.trod_int he hxi
    obtain ⟨b, rfl, hb⟩ := nat_u8 wa
    refine ⟨b, ?_, hb⟩
    have h := congrArg (fun l : List Value => l[0]?) ea
    simp only [Nat.mul_one, List.getElem?_take, List.getElem?_drop, List.getElem?_cons_zero] at h
    rw [if_pos (by omega), Nat.add_zero] at h
    exact h
  refine ⟨fun i => match cs[i]? with | some (.int .u8 a) => a.toNat % 256 | _ => 0, ?_, ?_⟩
  · intro i
    dsimp only
    split
    · exact Nat.mod_lt _ (by omega)
    · omega
  · apply List.ext_getElem?
    intro i
    by_cases hi : i < 16
    · obtain ⟨a, ha, hlt⟩ := key i hi
      rw [byteCells_get _ _ _ hi]
      rw [ha]
      congr 2
      show (a : Int) = ((((a : Int).toNat % 256 : Nat)) : Int)
      omega
    · rw [List.getElem?_eq_none (by omega), List.getElem?_eq_none (by rw [byteCells_length]; omega)]
theorem trod_addr {t tb ta e : TypeId} {f0 f1 : Field} {fuel : Nat} {cs : List Value} {x : DataW H × List MemPlace} (ht : P.underlying t = some (.struct #[f0, f1])) (h0 : f0.type = tb) (h1 : f1.type = ta) (o0 : f0.offset = 0) (o1 : f1.offset = 1)
    (hb : P.underlying tb = some .bool) (hcb : P.cellsOf tb = 1) (ha : P.underlying ta = some (.array 16 e)) (he : P.underlying e = some (.int .u8)) (hce : P.cellsOf e = 1) (hca : P.cellsOf ta = 16) (hct : P.cellsOf t = 17)
    (h : DataW.trod enc P W base spare held fuel t cs = some x) : ∃ (s : Bool) (f : Nat → Nat), (∀ i, f i < 256) ∧ cs = addrL s f := by
  obtain ⟨xs, n, _, _, hlen, hl, hg⟩ := DataW.trod_struct ht h
  have g0 := hg 0 f0 rfl
  have g1 := hg 1 f1 rfl
  rw [h0, o0, hcb, List.getElem?_eq_getElem (by rw [hl]; show 0 < 2; omega)] at g0
  rw [h1, o1, hca, List.getElem?_eq_getElem (by rw [hl]; show 1 < 2; omega)] at g1
  obtain ⟨s, e0, _⟩ := DataW.trod_bool hb g0
  obtain ⟨f, hf, e1⟩ := trod_row16 ha he hce hca g1
  refine ⟨s, f, hf, ?_⟩
  rw [hct] at hlen
  unfold addrL
  rw [← e1, List.take_of_length_le (by rw [List.length_drop]; omega)]
  cases cs with
  | nil => simp at hlen
  | cons v r =>
    simp only [List.drop_zero, List.take_succ_cons, List.take_zero, List.cons.injEq] at e0
    rw [e0.1]
    rfl
/-- an address with a number behind it -/
theorem trod_ask {t tA tz tb ta e : TypeId} {g0 g1 f0 f1 : Field} {fuel : Nat} {cs : List Value} {x : DataW H × List MemPlace} (hT : P.underlying t = some (.struct #[g0, g1])) (k0 : g0.type = tA) (k1 : g1.type = tz) (p0 : g0.offset = 0) (p1 : g1.offset = 17)
    (hz : P.underlying tz = some (.int .i64)) (hcz : P.cellsOf tz = 1) (hcT : P.cellsOf t = 18)
    (ht : P.underlying tA = some (.struct #[f0, f1])) (h0 : f0.type = tb) (h1 : f1.type = ta) (o0 : f0.offset = 0) (o1 : f1.offset = 1)
    (hb : P.underlying tb = some .bool) (hcb : P.cellsOf tb = 1) (ha : P.underlying ta = some (.array 16 e)) (he : P.underlying e = some (.int .u8)) (hce : P.cellsOf e = 1) (hca : P.cellsOf ta = 16) (hct : P.cellsOf tA = 17)
    (h : DataW.trod enc P W base spare held fuel t cs = some x) : ∃ (s : Bool) (f : Nat → Nat) (z : Int), (∀ i, f i < 256) ∧ (Lit.int .i64 z).wf = true ∧ cs = prefL s f z := by
  obtain ⟨xs, n, _, _, hlen, hl, hg⟩ := DataW.trod_struct hT h
  have q0 := hg 0 g0 rfl
  have q1 := hg 1 g1 rfl
  rw [k0, p0, hct, List.getElem?_eq_getElem (by rw [hl]; show 0 < 2; omega)] at q0
  rw [k1, p1, hcz, List.getElem?_eq_getElem (by rw [hl]; show 1 < 2; omega)] at q1
  obtain ⟨s, f, hf, e0⟩ := trod_addr ht h0 h1 o0 o1 hb hcb ha he hce hca hct q0
  obtain ⟨z, e1, _, wz⟩ := DataW.trod_int hz q1
  refine ⟨s, f, z, hf, wz, ?_⟩
  rw [hcT] at hlen
  unfold prefL
  rw [← e0, ← e1, List.drop_zero]
  rw [List.take_of_length_le (l := cs.drop 17) (by rw [List.length_drop]; omega), List.take_append_drop]
theorem open_ask {t tA tz tb ta e : TypeId} {g0 g1 f0 f1 : Field} {v : Value} {d : DataW H} {p : List MemPlace} {r : Reach} {b0 : Nat} (hT : P.underlying t = some (.struct #[g0, g1])) (k0 : g0.type = tA) (k1 : g1.type = tz) (p0 : g0.offset = 0) (p1 : g1.offset = 17)
    (hz : P.underlying tz = some (.int .i64)) (hcz : P.cellsOf tz = 1) (hcT : P.cellsOf t = 18)
    (ht : P.underlying tA = some (.struct #[f0, f1])) (h0 : f0.type = tb) (h1 : f1.type = ta) (o0 : f0.offset = 0) (o1 : f1.offset = 1)
    (hb : P.underlying tb = some .bool) (hcb : P.cellsOf tb = 1) (ha : P.underlying ta = some (.array 16 e)) (he : P.underlying e = some (.int .u8)) (hce : P.cellsOf e = 1) (hca : P.cellsOf ta = 16) (hct : P.cellsOf tA = 17)
    (hok : Value.okWide P W r b0 t v) (h : DataW.Trod enc P W base spare held t v d p) : ∃ (s : Bool) (f : Nat → Nat) (z : Int), (∀ i, f i < 256) ∧ (Lit.int .i64 z).wf = true ∧ v = .agg (prefL s f z).toArray := by
  obtain ⟨cs, rfl, _⟩ := okWide_struct hT hok
  obtain ⟨fuel, hf⟩ := h
  obtain ⟨s, f, z, hf', wz, e⟩ := trod_ask hT k0 k1 p0 p1 hz hcz hcT ht h0 h1 o0 o1 hb hcb ha he hce hca hct hf
  refine ⟨s, f, z, hf', wz, ?_⟩
  congr 1
  apply Array.ext'
  exact e

theorem open_adr {t tb ta e : TypeId} {f0 f1 : Field} {v : Value} {d : DataW H} {p : List MemPlace} {r : Reach} {b0 : Nat} (ht : P.underlying t = some (.struct #[f0, f1])) (h0 : f0.type = tb) (h1 : f1.type = ta) (o0 : f0.offset = 0) (o1 : f1.offset = 1)
    (hb : P.underlying tb = some .bool) (hcb : P.cellsOf tb = 1) (ha : P.underlying ta = some (.array 16 e)) (he : P.underlying e = some (.int .u8)) (hce : P.cellsOf e = 1) (hca : P.cellsOf ta = 16) (hct : P.cellsOf t = 17)
    (hok : Value.okWide P W r b0 t v) (h : DataW.Trod enc P W base spare held t v d p) : ∃ (s : Bool) (f : Nat → Nat), (∀ i, f i < 256) ∧ v = .agg (addrL s f).toArray := by
  obtain ⟨cs, rfl, _⟩ := okWide_struct ht hok
  obtain ⟨fuel, hf⟩ := h
  obtain ⟨s, f, hf', e⟩ := trod_addr ht h0 h1 o0 o1 hb hcb ha he hce hca hct hf
  refine ⟨s, f, hf', ?_⟩
  congr 1
  apply Array.ext'
  exact e

/-- a slice of addresses with numbers behind them: row i reads as (S i, F i, Z i) -/
def IsAsks (w : World) (a : Option Addr) (len cap : Nat) (Q : Nat → Bool × (Nat → Nat) × Int) : Prop :=
  len ≤ cap ∧ cap ≤ maxLen ∧ (∀ i, (∀ j, (Q i).2.1 j < 256) ∧ (Lit.int .i64 (Q i).2.2).wf = true) ∧ (len = 0 ∨ ∃ b off, a = some ⟨b, off, none⟩ ∧ b < w.heap.size ∧ ∀ i, i < len → ∀ j v, (prefL (Q i).1 (Q i).2.1 (Q i).2.2)[j]? = some v → w.cell? ⟨b, off + (i * 18 + j), none⟩ = some v)

theorem open_asks {tS t tA tz tb ta e : TypeId} {g0 g1 f0 f1 : Field} {a : Option Addr} {len cap : Nat} {d : DataW H} {p : List MemPlace} (hS : P.underlying tS = some (.slice t)) (hT : P.underlying t = some (.struct #[g0, g1])) (k0 : g0.type = tA) (k1 : g1.type = tz) (p0 : g0.offset = 0) (p1 : g1.offset = 17)
    (hz : P.underlying tz = some (.int .i64)) (hcz : P.cellsOf tz = 1) (hcT : P.cellsOf t = 18)
    (ht : P.underlying tA = some (.struct #[f0, f1])) (h0 : f0.type = tb) (h1 : f1.type = ta) (o0 : f0.offset = 0) (o1 : f1.offset = 1)
    (hb : P.underlying tb = some .bool) (hcb : P.cellsOf tb = 1) (ha : P.underlying ta = some (.array 16 e)) (he : P.underlying e = some (.int .u8)) (hce : P.cellsOf e = 1) (hca : P.cellsOf ta = 16) (hct : P.cellsOf tA = 17)
    (h : DataW.Trod enc P W base spare held tS (.slice a len cap) d p) : ∃ Q, IsAsks W a len cap Q := by
  have hdef : (∀ j : Nat, (fun _ : Nat => (0 : Nat)) j < 256) ∧ (Lit.int .i64 0).wf = true := ⟨fun _ => Nat.zero_lt_succ 255, by decide⟩
  obtain ⟨fuel, hf⟩ := h
  rcases open_slice hS hf with ⟨hcs, _⟩ | ⟨x, l, c, m, k, D, Pl, hcs, _, hl, hc, hm, _, hi⟩
  · simp [Value.cells] at hcs
    obtain ⟨rfl, rfl, rfl⟩ := hcs
    exact ⟨fun _ => (false, fun _ => 0, 0), Nat.le_refl _, by simp [maxLen], fun _ => hdef, .inl rfl⟩
  · simp [Value.cells] at hcs
    obtain ⟨rfl, rfl, rfl⟩ := hcs
    have key : ∀ i, i < len → ∃ q : Bool × (Nat → Nat) × Int, ((∀ j, q.2.1 j < 256) ∧ (Lit.int .i64 q.2.2).wf = true) ∧ ∀ j v, (prefL q.1 q.2.1 q.2.2)[j]? = some v → W.cell? (x.add (i * 18 + j)) = some v := by
      intro i hil
      obtain ⟨cs', hcells, htr⟩ := hi i (by rw [hm]; split <;> omega)
      rw [hcT] at hcells
      obtain ⟨_, hcl, hat⟩ := World.cells?_some hcells
      obtain ⟨s, f, z, hf', wz, e⟩ := trod_ask hT k0 k1 p0 p1 hz hcz hcT ht h0 h1 o0 o1 hb hcb ha he hce hca hct htr
      refine ⟨(s, f, z), ⟨hf', wz⟩, fun j v hv => ?_⟩
      dsimp only at hv
      have hj : j < 18 := by
        have := (List.getElem?_eq_some_iff.1 hv).1
        rwa [prefL_length] at this
      have h2 := hat j hj
      rw [add_add] at h2
      rw [h2, e]
      exact hv
    obtain ⟨Q, hQ⟩ := choose_lt (p := fun i (q : Bool × (Nat → Nat) × Int) => ((∀ j, q.2.1 j < 256) ∧ (Lit.int .i64 q.2.2).wf = true) ∧ ∀ j v, (prefL q.1 q.2.1 q.2.2)[j]? = some v → W.cell? (x.add (i * 18 + j)) = some v) key
    refine ⟨fun i => if i < len then Q i else (false, fun _ => 0, 0), hl, hc, fun i => ?_, ?_⟩
    · dsimp only
      split
      · rename_i h
        exact (hQ i h).1
      · exact hdef
    · rcases Nat.eq_zero_or_pos len with h0 | h0
      · exact .inl h0
      · obtain ⟨b, off, spot⟩ := x
        have hc0 := (hQ 0 h0).2 0 _ (pref_six _ _ _)
        have hspot : spot = none := by simpa [Addr.add] using World.cell?_spot hc0
        subst hspot
        refine .inr ⟨b, off, rfl, ?_, fun i hil j v hv => ?_⟩
        · have := block_lt' hc0
          simpa [Addr.add] using this
        · dsimp only at hv
          rw [if_pos hil] at hv
          have := (hQ i hil).2 j v hv
          rw [← this]
          congr 1
          unfold Addr.add
          split <;> simp_all
end
end Arr
end Go.Proofs.Ytobfpbmgipgdcaa
