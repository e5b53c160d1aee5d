/- Arguments of any shape of numbers, bools, texts, arrays, structs and slices, opened to cells. Nothing of the program. -/
import Derived.Test.YtdhjgenijieeaaaKit
import Derived.ChangeArms
import Derived.OpenShut
import Derived.WideShapes
import Derived.ChangeMaps
import Derived.Deep.Slices
namespace Go.Proofs.Ytdhjgenijieeaaa
namespace Shp
open Go.ChangeShapes Go.WideShapes Go.RowKit Mem Go.Deep Go.ChangeMaps

/-- a shape; a struct is 'rec' of its fields, one 'cons' each -/
inductive Sh
  | int (q : IntKind)
  | bool
  | str
  | row (n : Nat) (s : Sh)
  | list (s : Sh)
  | obj (s : Sh)
  | nil
  | cons (a b : Sh)
def Sh.size : Sh → Nat
  | .int _ => 1
  | .bool => 1
  | .str => 1
  | .row n s => n * s.size
  | .list _ => 1
  | .obj s => s.size
  | .nil => 0
  | .cons a b => a.size + b.size
def Sh.ty : Sh → Bool
  | .nil => false
  | .cons _ _ => false
  | _ => true
/-- does a type have a shape? -/
def Sh.fits (P : Program) : Sh → TypeId → List Field → Nat → Bool
  | .int q, t, _, _ => match P.underlying t with
    | some (.int q') => decide (q' = q)
    | _ => false
  | .bool, t, _, _ => match P.underlying t with
    | some .bool => true
    | _ => false
  | .str, t, _, _ => match P.underlying t with
    | some .string => true
    | _ => false
  | .row n s, t, _, _ => match P.underlying t with
    | some (.array m e) => decide (m = n) && decide (P.cellsOf e = s.size) && decide (P.cellsOf t = n * s.size) && s.ty && s.fits P e [] 0
    | _ => false
  | .list s, t, _, _ => match P.underlying t with
    | some (.slice e) => decide (P.cellsOf e = s.size) && s.ty && s.fits P e [] 0
    | _ => false
  | .obj s, t, _, _ => match P.underlying t with
    | some (.struct fs) => decide (P.cellsOf t = s.size) && !s.ty && s.fits P 0 fs.toList 0
    | _ => false
  | .nil, _, fs, _ => fs.isEmpty
  | .cons a b, _, fs, off => match fs with
    | [] => false
    | f :: fs => decide (f.offset = off) && decide (P.cellsOf f.type = a.size) && a.ty && !b.ty && a.fits P f.type [] 0 && b.fits P 0 fs (off + a.size)
/-- cells of a shape -/
def Good (w : World) : Sh → List Value → Prop
  | .int q, cs => ∃ a, cs = [.int q a] ∧ (Lit.int q a).wf = true
  | .bool, cs => ∃ b, cs = [.bool b]
  | .str, cs => ∃ s, cs = [.string s] ∧ s.size ≤ maxLen
  | .row n s, cs => ∀ i, i < n → Good w s ((cs.drop (i * s.size)).take s.size)
  | .list s, cs => ∃ A n c, cs = [.slice A n c] ∧ n ≤ c ∧ c ≤ maxLen ∧ (A = none → n = 0 ∧ c = 0) ∧ ∀ a, A = some a → ∀ i, i < n → ∃ ds, ds.length = s.size ∧ (∀ j v, ds[j]? = some v → w.cell? (a.add (i * s.size + j)) = some v) ∧ Good w s ds
  | .obj s, cs => Good w s cs
  | .nil, _ => True
  | .cons a b, cs => Good w a (cs.take a.size) ∧ Good w b (cs.drop a.size)

section
variable {H : Type} {enc : TypeId × Value → H} {P : Program} {W : World} {base : Nat} {held : Bool}

def A (enc : TypeId × Value → H) (P : Program) (W : World) (base : Nat) (held : Bool) (s : Sh) : Prop := ∀ t fs off fuel cs x, s.fits P t fs off = true → DataW.trod enc P W base (fun _ => true) held fuel t cs = some x → Good W s cs
def B (enc : TypeId × Value → H) (P : Program) (W : World) (base : Nat) (held : Bool) (s : Sh) : Prop := ∀ t fs off (cs : List Value), s.fits P t fs off = true → (∀ (i : Nat) (f : Field), fs[i]? = some f → ∃ n x, DataW.trod enc P W base (fun _ => true) held n f.type ((cs.drop f.offset).take (P.cellsOf f.type)) = some x) → Good W s (cs.drop off)
theorem good_all : ∀ s : Sh, (s.ty = true → A enc P W base held s) ∧ (s.ty = false → B enc P W base held s)
  | .int q => by
    refine ⟨fun _ t fs off fuel cs x h hd => ?_, fun h => by cases h⟩
    unfold Sh.fits at h
    split at h
    · rename_i q' hq
      have h := of_decide_eq_true h
      subst h
      obtain ⟨a, e, _, hw⟩ := DataW.trod_int hq hd
      exact ⟨a, e, hw⟩
    · cases h
  | .bool => by
    refine ⟨fun _ t fs off fuel cs x h hd => ?_, fun h => by cases h⟩
    unfold Sh.fits at h
    split at h
    · rename_i hq
      obtain ⟨a, e, _⟩ := DataW.trod_bool hq hd
      exact ⟨a, e⟩
    · cases h
  | .str => by
    refine ⟨fun _ t fs off fuel cs x h hd => ?_, fun h => by cases h⟩
    unfold Sh.fits at h
    split at h
    · rename_i hq
      obtain ⟨a, e, _, hw⟩ := DataW.trod_string hq hd
      exact ⟨a, e, hw⟩
    · cases h
  | .row n s => by
    refine ⟨fun _ t fs off fuel cs x h hd => ?_, fun h => by cases h⟩
    unfold Sh.fits at h
    split at h
    · rename_i m e hq
      simp only [Bool.and_eq_true, decide_eq_true_eq] at h
      obtain ⟨⟨⟨⟨rfl, he⟩, ht⟩, hty⟩, hf⟩ := h
      obtain ⟨xs, k, _, _, _, hl, hy⟩ := DataW.trod_array hq hd
      intro i hi
      have hxi := hy i hi
      rw [he, List.getElem?_eq_getElem (by omega)] at hxi
      exact (good_all s).1 hty e [] 0 _ _ _ hf hxi
    · cases h
  | .list s => by
    refine ⟨fun _ t fs off fuel cs x h hd => ?_, fun h => by cases h⟩
    unfold Sh.fits at h
    split at h
    · rename_i e hq
      simp only [Bool.and_eq_true, decide_eq_true_eq] at h
      obtain ⟨⟨he, hty⟩, hf⟩ := h
      rcases open_slice hq hd with ⟨hcs, _⟩ | ⟨a, l, c, m, k, D, Pl, hcs, _, hl, hc, hm, _, hi⟩
      · exact ⟨none, 0, 0, hcs, Nat.le_refl _, by simp [maxLen], fun _ => ⟨rfl, rfl⟩, fun a e => by cases e⟩
      · refine ⟨some a, l, c, hcs, hl, hc, fun e => (by cases e), fun a' ea i hil => ?_⟩
        injection ea with ea
        subst ea
        obtain ⟨cs', hcells, htr⟩ := hi i (by rw [hm]; split <;> omega)
        rw [he] at hcells
        obtain ⟨_, hcl, hat⟩ := World.cells?_some hcells
        refine ⟨cs', hcl, fun j v hv => ?_, (good_all s).1 hty e [] 0 _ _ _ hf htr⟩
        have hj : j < s.size := by
          have := (List.getElem?_eq_some_iff.1 hv).1
          omega
        have h2 := hat j hj
        rw [add_add] at h2
        rw [h2]
        exact hv
    · cases h
  | .obj s => by
    refine ⟨fun _ t fs off fuel cs x h hd => ?_, fun h => by cases h⟩
    unfold Sh.fits at h
    split at h
    · rename_i fs' hq
      simp only [Bool.and_eq_true, decide_eq_true_eq, Bool.not_eq_true'] at h
      obtain ⟨⟨he, hty⟩, hf⟩ := h
      obtain ⟨xs, n, _, _, hl, hlen, hg⟩ := DataW.trod_struct hq hd
      have := (good_all s).2 hty 0 fs'.toList 0 cs hf (fun i f hi => by
        have hif : fs'[i]? = some f := by rw [← Array.getElem?_toList]; exact hi
        have h1 := hg i f hif
        have h2 : i < xs.length := by
          rw [hlen]
          exact (Array.getElem?_eq_some_iff.1 hif).1
        rw [List.getElem?_eq_getElem h2] at h1
        exact ⟨_, _, h1⟩)
      rw [List.drop_zero] at this
      exact this
    · cases h
  | .nil => ⟨fun h => (by cases h), fun _ _ _ _ _ _ _ => trivial⟩
  | .cons a b => by
    refine ⟨fun h => (by cases h), fun _ t fs off cs h hd => ?_⟩
    unfold Sh.fits at h
    split at h
    · cases h
    · rename_i f fs'
      simp only [Bool.and_eq_true, decide_eq_true_eq, Bool.not_eq_true'] at h
      obtain ⟨⟨⟨⟨⟨ho, hc⟩, hta⟩, htb⟩, hfa⟩, hfb⟩ := h
      obtain ⟨n, x, h0⟩ := hd 0 f rfl
      rw [ho, hc] at h0
      refine ⟨(good_all a).1 hta _ _ _ _ _ _ hfa h0, ?_⟩
      have := (good_all b).2 htb 0 fs' (off + a.size) cs hfb (fun i g hi => hd (i + 1) g hi)
      rw [List.drop_drop]
      exact this

/-- an argument that is a struct -/
theorem open_rec {t : TypeId} (s : Sh) {v : Value} {d : DataW H} {p : List MemPlace} {r : Reach} {b0 : Nat} (hf : (Sh.obj s).fits P t [] 0 = true) (hok : Value.okWide P W r b0 t v) (h : DataW.Trod enc P W base (fun _ => true) held t v d p) : ∃ cs : List Value, v = .agg cs.toArray ∧ cs.length = s.size ∧ Good W s cs := by
  have hf' := hf
  unfold Sh.fits at hf'
  split at hf'
  · rename_i fs' hq
    simp only [Bool.and_eq_true, decide_eq_true_eq] at hf'
    obtain ⟨cs, rfl, hsz⟩ := okWide_struct hq hok
    obtain ⟨fuel, hd⟩ := h
    exact ⟨cs.toList, by simp, by rw [Array.length_toList, hsz]; exact hf'.1.1, (good_all (enc := enc) (base := base) (held := held) (.obj s)).1 rfl t [] 0 _ _ _ hf hd⟩
  · cases hf'
/-- an argument that is a slice -/
theorem open_list {t : TypeId} (s : Sh) {A : Option Addr} {n c : Nat} {d : DataW H} {p : List MemPlace} (hf : (Sh.list s).fits P t [] 0 = true) (h : DataW.Trod enc P W base (fun _ => true) held t (.slice A n c) d p) : Good W (.list s) [.slice A n c] := by
  obtain ⟨fuel, hd⟩ := h
  exact (good_all (enc := enc) (base := base) (held := held) (.list s)).1 rfl t [] 0 _ _ _ hf hd
end

/-- a slice's elements -/
theorem list_rows {w : World} {s : Sh} {A : Option Addr} {n c : Nat} (h : Good w (.list s) [.slice A n c]) (hs : 0 < s.size) : n ≤ c ∧ c ≤ maxLen ∧ (A = none → n = 0 ∧ c = 0) ∧ ∃ C : Nat → List Value, (∀ i, i < n → (C i).length = s.size ∧ Good w s (C i)) ∧ (n = 0 ∨ ∃ b off, A = some ⟨b, off, none⟩ ∧ b < w.heap.size ∧ ∀ i, i < n → ∀ j v, (C i)[j]? = some v → w.cell? ⟨b, off + (i * s.size + j), none⟩ = some v) := by
  obtain ⟨A', n', c', e, h1, h2, h3, h4⟩ := h
  injection e with e
  injection e with e1 e2 e3
  subst e1 e2 e3
  refine ⟨h1, h2, h3, ?_⟩
  rcases A with _ | a
  · have := h3 rfl
    exact ⟨fun _ => [], fun i hi => by omega, .inl this.1⟩
  · haveI : Inhabited (List Value) := ⟨[]⟩
    obtain ⟨C, hC⟩ := choose_lt (p := fun i (ds : List Value) => ds.length = s.size ∧ (∀ j v, ds[j]? = some v → w.cell? (a.add (i * s.size + j)) = some v) ∧ Good w s ds) (h4 a rfl)
    refine ⟨C, fun i hi => ⟨(hC i hi).1, (hC i hi).2.2⟩, ?_⟩
    rcases Nat.eq_zero_or_pos n with h0 | h0
    · exact .inl h0
    · obtain ⟨v0, hv0⟩ : ∃ v, (C 0)[0]? = some v := ⟨_, List.getElem?_eq_getElem (by rw [(hC 0 h0).1]; exact hs)⟩
      have hc0 := (hC 0 h0).2.1 0 v0 hv0
      obtain ⟨b, off, spot⟩ := a
      have hspot : spot = none := by simpa [Addr.add] using World.cell?_spot hc0
      subst hspot
      refine .inr ⟨b, off, rfl, ?_, fun i hi j v hv => ?_⟩
      · rcases Nat.lt_or_ge b w.heap.size with k | k
        · exact k
        · exfalso
          unfold World.cell? at hc0
          rw [show ((⟨b, off, none⟩ : Addr).add (0 * s.size + 0)).block = b from by unfold Addr.add; split <;> rfl, Array.getElem?_eq_none k] at hc0
          cases hc0
      · have := (hC i hi).2.1 j v hv
        rw [← this]
        congr 1
        unfold Addr.add
        split <;> simp_all
/-- bytes -/
theorem good_bytes {w : World} {A : Option Addr} {n c : Nat} (h : Good w (.list (.int .u8)) [.slice A n c]) : ∃ f : Nat → Nat, (∀ i, f i < 256) ∧ Rd w A n f ∧ n ≤ c ∧ c ≤ 9223372036854775807 ∧ (A = none → n = 0 ∧ c = 0) := by
  obtain ⟨h1, h2, h3, C, hC, h4⟩ := list_rows h (by show 0 < 1; omega)
  refine ⟨fun i => match (C i)[0]? with | some (Value.int .u8 z) => z.toNat % 256 | _ => 0, fun i => ?_, ?_, h1, by simp only [maxLen] at h2; omega, h3⟩
  · dsimp only
    split
    · exact Nat.mod_lt _ (by omega)
    · omega
  · rcases h4 with h0 | ⟨b, off, rfl, hlt, hx⟩
    · exact .inl h0
    · refine .inr ⟨b, off, rfl, hlt, fun i hi => ?_⟩
      obtain ⟨_, a, ha, hw⟩ := hC i hi
      have := hx i hi 0 (Value.int .u8 a) (by rw [ha]; rfl)
      have e : off + (i * (Sh.int .u8).size + 0) = off + i := by show off + (i * 1 + 0) = _; omega
      rw [e] at this
      rw [this]
      dsimp only
      rw [ha]
      obtain ⟨z, rfl, hz⟩ := nat_u8 hw
      simp only [List.getElem?_cons_zero, Int.toNat_natCast]
      congr 2
      omega
/-- a struct's fields, one behind the other -/
theorem good_cons1 {w : World} {a b : Sh} {cs : List Value} (h : Good w (.cons a b) cs) (ha : a.size = 1) (hl : cs.length = 1 + b.size) : ∃ v r, cs = v :: r ∧ Good w a [v] ∧ Good w b r ∧ r.length = b.size := by
  obtain ⟨h1, h2⟩ := h
  rw [ha] at h1 h2
  cases cs with
  | nil => simp at hl; omega
  | cons v r => exact ⟨v, r, rfl, h1, h2, by simp at hl; omega⟩
theorem good_nil {b : List Value} (h : b.length = Sh.nil.size) : b = [] := List.eq_nil_of_length_eq_zero h
end Shp
end Go.Proofs.Ytdhjgenijieeaaa
