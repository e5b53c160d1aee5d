/- The document's own yard in memory; Waits. -/
import Derived.Test.YtbmabfnjjflbnaaYdOps
import Derived.Test.YtbmabfnjjflbnaaRowS
import Derived.BigQuiet
namespace Go.Proofs.Ytbmabfnjjflbnaa
namespace Yd
open Go.ChangeShapes Go.WideShapes Go.ChangeAt Go.RowKit Go.Maps
open Num Mem Words Chacha Aead Poly Quiet RowV RowS

/-- a packet of the document's yard: its owner, what it is, its bytes' slice -/
structure RPk where
  o : Int
  x : Pk
  A : Option Addr
  c : Nat
def rpL (p : RPk) : List Value := [.int .i64 p.o, .int .u64 (p.x.num : Nat), .slice p.A p.x.len p.c]
theorem rp_one (p : RPk) : ∀ u ∈ rpL p, u.oneCell' = true := by
  intro u hu
  simp [rpL] at hu
  rcases hu with rfl | rfl | rfl <;> rfl
def flatR : List RPk → List Value
  | [] => []
  | p :: R => rpL p ++ flatR R
theorem flatR_length : ∀ R : List RPk, (flatR R).length = R.length * 3
  | [] => rfl
  | p :: R => by show (rpL p ++ flatR R).length = _; rw [List.length_append, flatR_length R, List.length_cons]; show 3 + _ = _; omega
theorem flatR_append : ∀ (R S : List RPk), flatR (R ++ S) = flatR R ++ flatR S
  | [], S => rfl
  | p :: R, S => by show rpL p ++ flatR (R ++ S) = (rpL p ++ flatR R) ++ flatR S; rw [flatR_append R S, List.append_assoc]
theorem flatR_one (p : RPk) : flatR [p] = rpL p := List.append_nil _
theorem flatR_each : ∀ (R : List RPk), ∀ u ∈ flatR R, u.oneCell' = true
  | [], u, h => by cases h
  | p :: R, u, h => by
    rcases List.mem_append.1 h with h | h
    · exact rp_one p u h
    · exact flatR_each R u h
theorem flatR_get : ∀ (R : List RPk) (i j : Nat) (p : RPk), R[i]? = some p → j < 3 → (flatR R)[i * 3 + j]? = (rpL p)[j]?
  | [], i, j, p, h, _ => by simp at h
  | d :: R, 0, j, p, h, hj => by
    simp only [List.getElem?_cons_zero, Option.some.injEq] at h
    subst h
    show (rpL d ++ flatR R)[0 * 3 + j]? = _
    rw [Nat.zero_mul, Nat.zero_add, List.getElem?_append_left (by show j < 3; exact hj)]
  | d :: R, i + 1, j, p, h, hj => by
    rw [List.getElem?_cons_succ] at h
    show (rpL d ++ flatR R)[(i + 1) * 3 + j]? = _
    rw [List.getElem?_append_right (by show 3 ≤ _; omega)]
    have e : (i + 1) * 3 + j - (rpL d).length = i * 3 + j := by show (i + 1) * 3 + j - 3 = _; omega
    rw [e]
    exact flatR_get R i j p h hj
theorem flatR_take : ∀ (R : List RPk) (i : Nat), flatR (R.take i) = (flatR R).take (i * 3)
  | [], i => by simp [flatR]
  | d :: R, 0 => by simp [flatR]
  | d :: R, i + 1 => by
    rw [List.take_succ_cons]
    show rpL d ++ flatR (R.take i) = (rpL d ++ flatR R).take ((i + 1) * 3)
    have e : (i + 1) * 3 - (rpL d).length = i * 3 := by show (i + 1) * 3 - 3 = _; omega
    have e2 : (rpL d).take ((i + 1) * 3) = rpL d := List.take_of_length_le (by show 3 ≤ _; omega)
    rw [flatR_take R i, List.take_append, e, e2]
theorem flatR_drop : ∀ (R : List RPk) (i : Nat), flatR (R.drop i) = (flatR R).drop (i * 3)
  | [], i => by simp [flatR]
  | d :: R, 0 => by simp [flatR]
  | d :: R, i + 1 => by
    rw [List.drop_succ_cons]
    show flatR (R.drop i) = (rpL d ++ flatR R).drop ((i + 1) * 3)
    have e : (i + 1) * 3 - (rpL d).length = i * 3 := by show (i + 1) * 3 - 3 = _; omega
    have e2 : (rpL d).drop ((i + 1) * 3) = [] := List.drop_eq_nil_of_le (by show 3 ≤ _; omega)
    rw [flatR_drop R i, List.drop_append, e, e2, List.nil_append]

/-- the document's yard in memory -/
structure RYC (w : World) (B x : Nat) (R : List RPk) (A : Option Addr) (c next thrown : Nat) : Prop where
  obj : Whole w x 29 #[.slice A R.length c, .int .u64 (next : Nat), .int .u64 (thrown : Nat)]
  row : w.ownsRow B 59 3 (.slice A R.length c) R.length (flatR R)
  own : ∀ p ∈ R, w.ownsRow B 5 1 (.slice p.A p.x.len p.c) p.x.len (byteCells p.x.f p.x.len)
  bnd : ∀ p ∈ R, (∀ i, p.x.f i < 256) ∧ p.x.len ≤ 1500
  bx : B ≤ x
def RY (w : World) (B x : Nat) (R : List RPk) (next thrown : Nat) : Prop := ∃ A c, RYC w B x R A c next thrown
/-- a row of one's own lies where the blocks of its type stay -/
theorem own_stays {w w' : World} {B e size n : Nat} {v : Value} {xs : List Value} (h : w.ownsRow B e size v n xs) (hk : ∀ i cs, Whole w i e cs → Whole w' i e cs) : w'.ownsRow B e size v n xs := by
  refine ⟨h.1, ?_⟩
  rcases h.2 with h0 | ⟨c, cap, cur, hv, hB, hh, rest⟩
  · exact Or.inl h0
  · exact Or.inr ⟨c, cap, cur, hv, hB, hk _ _ hh, rest⟩
section
variable {w w' : World} {B x next thrown : Nat} {R : List RPk} {A : Option Addr} {c : Nat}
theorem RYC.keep (h : RYC w B x R A c next thrown) (hk : ∀ i t cs, Whole w i t cs → (t = 5 ∨ t = 59 ∨ t = 29) → Whole w' i t cs) : RYC w' B x R A c next thrown :=
  ⟨hk _ _ _ h.obj (.inr (.inr rfl)), own_stays h.row (fun i cs e => hk i _ cs e (.inr (.inl rfl))), fun p hp => own_stays (h.own p hp) (fun i cs e => hk i _ cs e (.inl rfl)), h.bnd, h.bx⟩
theorem RYC.keepA (h : RYC w B x R A c next thrown) (hk : ∀ i t cs, Whole w i t cs → (t = 5 ∨ t = 29 ∨ ∃ a, A = some a ∧ i = a.block) → Whole w' i t cs) : RYC w' B x R A c next thrown := by
  refine ⟨hk _ _ _ h.obj (.inr (.inl rfl)), ⟨h.row.1, ?_⟩, fun p hp => own_stays (h.own p hp) (fun i cs e => hk i _ cs e (.inl rfl)), h.bnd, h.bx⟩
  rcases h.row.2 with h0 | ⟨b, cap, cur, hv, hB, hh, rest⟩
  · exact Or.inl h0
  · refine Or.inr ⟨b, cap, cur, hv, hB, hk _ _ _ hh (.inr (.inr ?_)), rest⟩
    injection hv with e1 e2 e3
    exact ⟨_, e1, rfl⟩
theorem RYC.below (h : RYC w B x R A c next thrown) (hb : Below w.heap.size w w') : RYC w' B x R A c next thrown := h.keep fun _ _ _ e _ => e.below hb e.lt
theorem RY.keep (h : RY w B x R next thrown) (hk : ∀ i t cs, Whole w i t cs → (t = 5 ∨ t = 59 ∨ t = 29) → Whole w' i t cs) : RY w' B x R next thrown := by
  obtain ⟨A, c, h⟩ := h
  exact ⟨A, c, h.keep hk⟩
theorem RY.below (h : RY w B x R next thrown) (hb : Below w.heap.size w w') : RY w' B x R next thrown := h.keep fun _ _ _ e _ => e.below hb e.lt
theorem RYC.cell (h : RYC w B x R A c next thrown) (hn : 0 < R.length) : ∃ g, A = some ⟨g, 0, none⟩ ∧ g < w.heap.size ∧ ∀ k p, R[k]? = some p → ∀ j v, (rpL p)[j]? = some v → w.cell? ⟨g, k * 3 + j, none⟩ = some v := by
  obtain ⟨g, e, _, hlt, hc⟩ := own_cells h.row hn
  refine ⟨g, e, hlt, fun k p hk j v hv => (hc _ _ ?_).1⟩
  have hj : j < 3 := (List.getElem?_eq_some_iff.1 hv).1
  rw [flatR_get R k j p hk hj]
  exact hv
end
/-- how many wait for an owner -/
def wt (o : Int) (R : List RPk) : Nat := (R.filter fun p => p.o == o).length
theorem wt_le (o : Int) (R : List RPk) : wt o R ≤ R.length := List.length_filter_le ..
theorem wt_take {R : List RPk} {o : Int} {k : Nat} {p : RPk} (h : R[k]? = some p) : wt o (R.take (k + 1)) = wt o (R.take k) + if (p.o == o) = true then 1 else 0 := by
  unfold wt
  rw [List.take_add_one, h, List.filter_append, List.length_append]
  congr 1
  show (List.filter _ [p]).length = _
  by_cases e : (p.o == o) = true
  · simp [e]
  · simp [e]

set_option maxRecDepth 100000 in
theorem rwaits_any {w : World} {B x next thrown : Nat} {R : List RPk} (h : RY w B x R next thrown) (hR : R.length ≤ 1000) (o : Int) :
    Calls Try.prog 12 #[.pointer (some ⟨x, 0, none⟩), .int .i64 o] w fun e w' => e = .returned (.int .i64 (wt o R : Nat)) ∧ w = w' := by
  obtain ⟨A, c, h⟩ := h
  have c0 : w.cell? ⟨x, 0, none⟩ = some (.slice A R.length c) := h.obj.cell 0
  have H := Lib.hid h
  obtain ⟨n, hn⟩ : ∃ n, R.length = n := ⟨_, rfl⟩
  rw [hn] at c0 hR
  have HN := Lib.hid hn
  clear h hn
  go_enter Try.func12, Try.ntmps12
  go_wp2_with fail
  go_loopw [5, 6] (fun s i wr => ∃ k m : Nat, k ≤ n ∧ m ≤ k ∧ i = .int .i64 k ∧ s = .int .i64 m ∧ wt o (R.take k) = m ∧ wr = w) (fun _ i _ => n - (intOf i).toNat)
  case atStart => exact ⟨0, 0, Nat.zero_le _, Nat.zero_le _, rfl, rfl, rfl, rfl⟩
  case round =>
    obtain ⟨k, m, hk, hmk, rfl, rfl, hm, rfl⟩ := hrel
    have HM := Lib.hid hm
    clear hm
    by_cases hlt : k < n
    · have hkl : k < R.length := by rw [HN.out]; exact hlt
      have hp := List.getElem?_eq_getElem hkl
      obtain ⟨g, rfl, _, hc⟩ := H.out.cell (by omega)
      have hs := wt_take (o := o) hp
      have cq : wr.cell? ⟨g, k * 3, none⟩ = some (.int .i64 (R[k]).o) := hc k _ hp 0 _ rfl
      rw [HM.out] at hs
      generalize R[k] = p at *
      clear hc hp hkl
      obtain ⟨po, hpo⟩ : ∃ po, p.o = po := ⟨_, rfl⟩
      rw [hpo] at cq hs
      clear hpo
      rcases he : (po == o) with _ | _
      · rw [he, if_neg (by decide), Nat.add_zero] at hs
        have HS := Lib.hid hs
        clear hs
        have he2 : (po = o) = False := eq_false (by simpa using he)
        go_wp2_with fail
        go_round
        case rel => exact ⟨k + 1, m, by omega, by omega, by go_num, rfl, HS.out, trivial⟩
        case measure => simp [intOf]; omega
      · rw [he, if_pos rfl] at hs
        have HS := Lib.hid hs
        clear hs
        have he2 : (po = o) = True := eq_true (by simpa using he)
        go_wp2_with fail
        go_round
        case rel => exact ⟨k + 1, m + 1, by omega, by omega, by go_num, by go_num, HS.out, trivial⟩
        case measure => simp [intOf]; omega
    · obtain rfl : k = n := by omega
      have hlk : R.take k = R := by rw [← HN.out, List.take_length]
      rw [hlk] at HM
      clear hlk
      go_wp2_with fail
      go_ret
      exact ⟨by rw [HM.out]; rfl, rfl⟩
end Yd
end Go.Proofs.Ytbmabfnjjflbnaa
