/- aditlaw28.in: is a number in a row? -/
import Derived.Test.YtdhjgenijieeaaaSlInv
namespace Go.Proofs.Ytdhjgenijieeaaa
namespace Sl
open Go.ChangeShapes Go.WideShapes Go.ChangeAt Go.RowKit
open Num Mem Words Chacha Aead Poly Ops Quiet WinT Win Pr RowS

theorem u32_base {w : World} {B c : Nat} {A : Option Addr} {N : List Nat} (h : w.ownsRow B 25 1 (.slice A N.length c) N.length (u32L N)) :
    N = [] ∨ ∃ g, A = some ⟨g, 0, none⟩ ∧ g < w.heap.size ∧ ∀ t u, (u32L N)[t]? = some u → w.cell? ⟨g, t, none⟩ = some u := by
  rcases h.2 with ⟨e1, e0⟩ | ⟨g, cap, cur, e1, _, hh, h1, h2, _, ht⟩
  · exact .inl (List.eq_nil_of_length_eq_zero e0)
  · injection e1 with e1 e2 e3
    have hw : Whole w g 25 cur := hh
    refine .inr ⟨g, e1, hw.lt, fun t u hu => ?_⟩
    rw [hw.cell, ← Array.getElem?_toList]
    rw [← ht, List.getElem?_take] at hu
    split at hu
    · exact hu
    · cases hu
theorem own_ge {w : World} {B e size n : Nat} {v : Value} {xs : List Value} (h : w.ownsRow B e size v n xs) {g : Nat} (hg : v.ownBlock = some g) : B ≤ g := by
  rcases h.2 with ⟨h0, _⟩ | ⟨c, cap, cur, hv, hB, _⟩
  · rw [h0] at hg; cases hg
  · rw [hv] at hg; cases hg; exact hB
theorem own_type {w : World} {B e size n : Nat} {v : Value} {xs : List Value} (h : w.ownsRow B e size v n xs) {g : Nat} (hg : v.ownBlock = some g) : ∃ cs, Whole w g e cs := by
  rcases h.2 with ⟨h0, _⟩ | ⟨c, cap, cur, hv, hB, hh, _⟩
  · rw [h0] at hg; cases hg
  · rw [hv] at hg; cases hg; exact ⟨cur, hh⟩
/-- a number behind a row: blocks of other types stay -/
theorem wpList_pushU {ops : Array Oper} {rest : List Oper} {o : Oper} {a : Act} {Q : Exit → Act → World → Prop} {w : World} {B c : Nat} {A : Option Addr} {N : List Nat} (l : Nat) (hgd : o.guard = none) (s x : Operand)
    (ho : o.op = .call { callee := .builtin .append, args := #[s, x], argTypes := #[37, 37] })
    (hs : a.eval s = .slice A N.length c) (hx : a.eval x = .slice (some ⟨w.heap.size, 0, none⟩) 1 1) (own : w.ownsRow B 25 1 (.slice A N.length c) N.length (u32L N)) (hB : B ≤ w.heap.size) (hk : N.length ≤ 1000)
    (h : ∀ A' c' w', w'.ownsRow B 25 1 (.slice A' (N.length + 1) c') (N.length + 1) (u32L N ++ [.int .u32 (l : Nat)]) → Below B w w' → (∀ g T cs, Whole w g T cs → T ≠ 25 → Whole w' g T cs) → wpList Try.prog ops Q rest (a.put o.dst (.slice A' (N.length + 1) c')) w') :
    wpList Try.prog ops Q (o :: rest) a (w.alloc (.cells [Value.int .u32 (l : Nat)].toArray 25)) := by
  obtain ⟨i0, hi, hz0, hz1, hz2⟩ := info_parts info_u32
  refine wpList_append_own _ hgd s x 37 ho B 25 i0 (.int .u32 0) 1 4 Try.underlying37 hi hz0 hz1 hz2 rfl (by decide) (.slice A N.length c) N.length (u32L N) hs (World.ownsRow.alloc own _) ⟨w.heap.size, 0, none⟩ 1 1 [Value.int .u32 (l : Nat)] hx rfl (news_new _ _ _)
    (by intro u hu; simp only [List.mem_singleton] at hu; subst hu; rfl) (by simp only [maxLen]; omega) (by omega) (by simp; omega) ?_
  intro v' w' g1 g2 _
  have hbel := keeps_row (World.ownsRow.alloc own (.cells [Value.int .u32 (l : Nat)].toArray 25)) ((Below.refl B w).alloc hB _) g2 (Nat.le_trans hB (by simp))
  have hkeep : ∀ g T cs, Whole w g T cs → T ≠ 25 → Whole w' g T cs := fun g T cs hw hT => by
    have hw2 : Whole (w.alloc (.cells [Value.int .u32 (l : Nat)].toArray 25)) g T cs := hw.alloc _
    refine (g2.block g hw2.lt (fun e => ?_)).trans hw2
    obtain ⟨ds, hd⟩ := own_type own e.symm
    have e2 := hw.symm.trans hd
    injection e2 with e2
    injection e2 with _ e2
    exact hT e2
  rcases g1.2 with ⟨_, h0⟩ | ⟨g, cap, cur, rfl, r⟩
  · omega
  · exact h _ _ w' g1 hbel hkeep
set_option maxRecDepth 100000 in
set_option maxHeartbeats 4000000 in
theorem in_any {w : World} {B c : Nat} {A : Option Addr} {N : List Nat} (h : w.ownsRow B 25 1 (.slice A N.length c) N.length (u32L N)) (hN : N.length ≤ 1000) (l : Nat) (hl : l ∈ N) :
    Calls Try.prog 9 #[.slice A N.length c, .int .u32 (l : Nat)] w fun e w' => e = .returned (.bool true) ∧ Below w.heap.size w w' := by
  have HC := Lib.hid (u32_base h)
  obtain ⟨n, hn⟩ : ∃ n, N.length = n := ⟨_, rfl⟩
  have HN := Lib.hid hn
  have HL := Lib.hid hl
  rw [hn] at hN ⊢
  clear h hn hl
  go_enter Try.func9, Try.ntmps9
  go_wp2_with fail
  go_loopw [5] (fun i X => ∃ k : Nat, k ≤ n ∧ i = .int .i64 k ∧ (∀ j, j < k → N[j]? ≠ some l) ∧ Below w.heap.size w X) (fun i _ => n - (intOf i).toNat)
  case atStart => exact ⟨0, Nat.zero_le _, rfl, fun j hj => absurd hj (Nat.not_lt_zero _), Below.refl _ _⟩
  case round =>
    obtain ⟨k, hk, rfl, hno, hb⟩ := hrel
    have HNO := Lib.hid hno
    have HB := Lib.hid hb
    clear hno hb
    by_cases hlt : k < n
    · have hkN : k < N.length := by rw [HN.out]; exact hlt
      have hx := List.getElem?_eq_getElem hkN
      generalize N[k] = z at hx
      rcases HC.out with h0 | ⟨g, rfl, hgl, hc⟩
      · rw [h0] at hx; cases hx
      · have cz : wr.cell? ⟨g, k, none⟩ = some (.int .u32 (z : Nat)) := (HB.out.cell (p := ⟨g, k, none⟩) hgl).trans (hc k _ (by unfold u32L; rw [List.getElem?_map, hx]; rfl))
        have HX := Lib.hid hx
        obtain ⟨q, hq⟩ : ∃ b, (((z : Nat) : Int) == ((l : Nat) : Int)) = b := ⟨_, rfl⟩
        have HQ := Lib.hid (show q = true ↔ z = l from by rw [← hq, beq_iff_eq]; omega)
        obtain ⟨ZI, hZI⟩ : ∃ Z : Int, ((z : Nat) : Int) = Z := ⟨_, rfl⟩
        rw [hZI] at cz hq
        clear hx hc hZI
        cases q with
        | true =>
          go_wp2_with fail
          go_ret
          exact ⟨rfl, HB.out⟩
        | false =>
          have HNX := Lib.hid (show ∀ j, j < k + 1 → N[j]? ≠ some l from fun j hj e => by
            rcases Nat.lt_or_ge j k with h | h
            · exact HNO.out j h e
            · obtain rfl : j = k := by omega
              rw [HX.out] at e
              have := HQ.out.2 (Option.some.inj e)
              cases this)
          go_wp2_with fail
          go_round
          case rel => exact ⟨k + 1, by omega, by go_num, HNX.out, HB.out⟩
          case measure => simp only [intOf]; omega
    · exfalso
      obtain ⟨j, hj, e⟩ := List.mem_iff_getElem.1 HL.out
      exact HNO.out j (by rw [HN.out] at hj; omega) (e ▸ List.getElem?_eq_getElem hj)
/-- the keys of now may seal -/
def Inv3 (N : List Nat) (x : SS) : Prop := x.ok ∧ (x.hc = true → x.c.l ∈ N)
theorem inv3_tidy {N : List Nat} {x : SS} (h : Inv3 N x) : Inv3 N (tidy x) := by
  refine ⟨tidy_ok h.1, fun e => ?_⟩
  show (if x.hc = true then x.c else noP).l ∈ N
  rw [if_pos (show x.hc = true from e)]; exact h.2 e
theorem inv3_more {N : List Nat} {x : SS} (h : Inv3 N x) (l : Nat) : Inv3 (N ++ [l]) x := ⟨h.1, fun e => List.mem_append_left _ (h.2 e)⟩
theorem inv3_inst {N : List Nat} {x : SS} (h : Inv3 N x) {p : PS} (hp : p.ok) (hl : p.one = true → p.l ∈ N) : Inv3 N (inst x p) := by
  obtain ⟨⟨o1, o2, o3⟩, h1⟩ := h
  unfold inst
  split
  · exact inv3_tidy ⟨⟨o1, o2, hp⟩, h1⟩
  · rename_i hone
    have hone : p.one = true := by simpa using hone
    split
    · exact inv3_tidy ⟨⟨o3, hp, o3⟩, fun _ => hl hone⟩
    · exact inv3_tidy ⟨⟨o2, hp, o3⟩, fun _ => hl hone⟩
theorem inv3_sealed {N : List Nat} {x : SS} (h : Inv3 N x) {t : Int} {n : Nat} (hs : sE x.c t n = 0) : Inv3 N (sealed x) := by
  have hi := inv_sealed (last := max x.p.born (max x.c.born x.n.born)) ⟨h.1, fun _ => by omega, fun _ => by omega, fun _ => by omega⟩ hs
  exact ⟨hi.1, h.2⟩
theorem inv3_open {N : List Nat} {x y : SS} {l : Nat} {nx : Bool} {E : Nat} (h : Inv3 N x) (ho : OpP x y l nx E) (hl : E = 0 → nx = true → l ∈ N) : Inv3 N y := by
  have hi := inv_open (last := max x.p.born (max x.c.born x.n.born)) ⟨h.1, fun _ => by omega, fun _ => by omega, fun _ => by omega⟩ ho
  refine ⟨hi.1, ?_⟩
  by_cases hE : E = 0
  · obtain ⟨W, _, k | k | k⟩ := ho.2 hE
    · rw [k.2.2]
      intro e
      show (if x.hc = true then ({ x.c with win := W } : PS) else noP).l ∈ N
      rw [if_pos (show x.hc = true from e)]; exact h.2 e
    · rw [k.2.2]
      intro e
      show (if x.hc = true then x.c else noP).l ∈ N
      rw [if_pos (show x.hc = true from e)]; exact h.2 e
    · rw [k.2.2]
      intro _
      show x.n.l ∈ N
      rcases find_some k.2.1 with ⟨e, _⟩ | ⟨_, e⟩ | ⟨e, _⟩
      · cases e
      · rw [e]; exact hl hE k.1
      · cases e
  · rw [ho.1 hE]; exact h.2
theorem inv3_expire {N : List Nat} {x : SS} (h : Inv3 N x) (t : Int) : Inv3 N (expire x t) := by
  unfold expire
  refine inv3_tidy ⟨h.1, fun e => ?_⟩
  have e' : (if oldB x.c t = true then false else x.hc) = true := e
  split at e'
  · cases e'
  · exact h.2 e'
end Sl
end Go.Proofs.Ytdhjgenijieeaaa
