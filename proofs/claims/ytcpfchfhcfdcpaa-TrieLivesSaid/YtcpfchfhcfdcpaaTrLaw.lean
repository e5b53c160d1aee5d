/- aditlaw14: tries as a model; Do. -/
import Derived.Test.YtcpfchfhcfdcpaaTrAlive
namespace Go.Proofs.Ytcpfchfhcfdcpaa
namespace Tri
open Go.ChangeShapes Go.WideShapes Go.ChangeAt Go.RowKit
open Num Mem Words Chacha Aead Poly Quiet Ops Adr

structure Tm where
  a : Tr
  b : Tr
def Tm.L (t : Tm) : List Rt := routes2 t.a t.b
structure Tm.Fit (t : Tm) : Prop where
  oka : t.a.Ok
  okb : t.b.Ok
  len : t.L.length ≤ 64
  own : ∀ x ∈ t.L, (x.p.length : Int) ≤ digitsI x.s ∧ okI x.o ∧ 1 ≤ x.o
abbrev TrW (w : World) (t : Tm) (q : Option Nat) : Prop := IsTrie (fun _ => True) w t.a t.b q
structure Opm where
  k : Int
  s : Bool
  g : Nat → Nat
  z : Int
  o : Int
  s2 : Bool
  g2 : Nat → Nat
def Opm.cells (x : Opm) : List Value := .int .i64 x.k :: (prefL x.s x.g x.z ++ (.int .i64 x.o :: addrL x.s2 x.g2))
structure Opm.Ok (x : Opm) : Prop where
  g : ∀ i, x.g i < 256
  g2 : ∀ i, x.g2 i < 256
  z0 : -9223372036854775808 ≤ x.z
  z1 : x.z ≤ 9223372036854775807
  o : okI x.o
theorem Opm.len (x : Opm) : x.cells.length = 37 := by simp [Opm.cells, prefL_length, addrL_length]
theorem Opm.one (x : Opm) : x.cells.toArray.all (·.oneCell') = true := by
  rw [List.all_toArray, List.all_eq_true]
  intro v hv
  unfold Opm.cells at hv
  rcases List.mem_cons.1 hv with h | h
  · rw [h]; rfl
  · rcases List.mem_append.1 h with h | h
    · exact pref_each _ _ _ v h
    · rcases List.mem_cons.1 h with h | h
      · rw [h]; rfl
      · exact addr_each _ _ v h
theorem Opm.pref (x : Opm) {j : Nat} {v : Value} (h : (prefL x.s x.g x.z)[j]? = some v) : x.cells[1 + j]? = some v := by
  unfold Opm.cells
  rw [Nat.add_comm, List.getElem?_cons_succ, List.getElem?_append_left (List.getElem?_eq_some_iff.1 h).1]
  exact h
theorem Opm.owner (x : Opm) : x.cells[19]? = some (.int .i64 x.o) := by
  unfold Opm.cells
  rw [List.getElem?_cons_succ, List.getElem?_append_right (by rw [prefL_length]; omega), prefL_length]
  rfl
theorem Opm.addr (x : Opm) {j : Nat} {v : Value} (h : (addrL x.s2 x.g2)[j]? = some v) : x.cells[20 + j]? = some v := by
  unfold Opm.cells
  rw [show 20 + j = (19 + j) + 1 by omega, List.getElem?_cons_succ, List.getElem?_append_right (by rw [prefL_length]; omega), prefL_length, show 19 + j - 18 = j + 1 by omega, List.getElem?_cons_succ]
  exact h
/-- the trie behind an op -/
def doE (t : Tm) (x : Opm) : Nat := if x.k = 0 then putE x.s x.g x.z x.o t.a t.b else if x.k = 1 then dropE x.s x.g x.z t.a t.b else 0
def doT (t : Tm) (x : Opm) : Tm :=
  if x.k = 0 then (if putE x.s x.g x.z x.o t.a t.b = 0 then ⟨insA x.s (bs x.g x.z.toNat) x.o t.a, insB x.s (bs x.g x.z.toNat) x.o t.b⟩ else t)
  else if x.k = 1 then (if dropE x.s x.g x.z t.a t.b = 0 then ⟨delA x.s (bs x.g x.z.toNat) t.a, delB x.s (bs x.g x.z.toNat) t.b⟩ else t)
  else if x.k = 2 then ⟨dels x.o false t.L t.a, dels x.o true t.L t.b⟩ else t
theorem putL_length {q : Bs} {w : Int} : ∀ l : List (Bs × Int), (putL q w l).length ≤ l.length + 1
  | [] => Nat.le_refl _
  | x :: l => by
    unfold putL
    split
    · have := putL_length (q := q) (w := w) l
      simp only [List.length_cons]
      omega
    · split <;> simp
theorem putL_same {q : Bs} {w o : Int} : ∀ {l : List (Bs × Int)}, Srt l → (q, o) ∈ l → (putL q w l).length = l.length
  | [], _, h => by cases h
  | x :: l, hs, h => by
    have h1 := List.pairwise_cons.1 hs
    unfold putL
    rcases List.mem_cons.1 h with e | e
    · rw [← e, if_neg (by rw [lt_irrefl]; decide), if_pos rfl]
      rfl
    · rw [if_pos (h1.1 _ e), List.length_cons, putL_same h1.2 e, List.length_cons]
theorem routes_length (s : Bool) (t : Tr) : (t.routes s).length = t.toL.length := by unfold Tr.routes; rw [List.length_map]
theorem routes2_length (ta tb : Tr) : (routes2 ta tb).length = ta.toL.length + tb.toL.length := by unfold routes2; rw [List.length_append, routes_length, routes_length]
theorem putE_zero {s : Bool} {g : Nat → Nat} {z o : Int} {ta tb : Tr} (h : putE s g z o ta tb = 0) : rightPB s g z = true ∧ 1 ≤ o ∧ (getB (holdR s g ta tb) s g z = true ∨ (routes2 ta tb).length < 64) := by
  unfold putE at h
  cases hr : rightPB s g z with
  | false => rw [if_pos hr] at h; cases h
  | true =>
    rw [if_neg (by rw [hr]; decide)] at h
    by_cases ho : o < 1
    · rw [if_pos ho] at h; cases h
    · rw [if_neg ho] at h
      refine ⟨rfl, by omega, ?_⟩
      by_cases hf : getB (holdR s g ta tb) s g z = false ∧ 64 ≤ (routes2 ta tb).length
      · rw [if_pos hf] at h; cases h
      · cases hb : getB (holdR s g ta tb) s g z with
        | true => exact .inl rfl
        | false => exact .inr (by rcases Nat.lt_or_ge (routes2 ta tb).length 64 with k | k; exact k; exact absurd ⟨hb, k⟩ hf)
theorem dropE_zero {s : Bool} {g : Nat → Nat} {z : Int} {ta tb : Tr} (h : dropE s g z ta tb = 0) : rightPB s g z = true ∧ getB (holdR s g ta tb) s g z = true := by
  unfold dropE at h
  cases hr : rightPB s g z with
  | false => rw [if_pos hr] at h; cases h
  | true =>
    rw [if_neg (by rw [hr]; decide)] at h
    cases hb : getB (holdR s g ta tb) s g z with
    | false => rw [if_pos hb] at h; cases h
    | true => exact ⟨rfl, rfl⟩
theorem right_nat {s : Bool} {g : Nat → Nat} {z : Int} (h : rightPB s g z = true) : ∃ n : Nat, z = (n : Int) ∧ rightPB s g (n : Int) = true := by
  have := (right_parts h).2.1
  exact ⟨z.toNat, by omega, by rw [show ((z.toNat : Nat) : Int) = z by omega]; exact h⟩
theorem fit_put {t : Tm} (h : t.Fit) {s : Bool} {g : Nat → Nat} {z o : Int} (hg : ∀ i, g i < 256) (ho : okI o) (he : putE s g z o t.a t.b = 0) : Tm.Fit ⟨insA s (bs g z.toNat) o t.a, insB s (bs g z.toNat) o t.b⟩ := by
  obtain ⟨hr, ho1, hc⟩ := putE_zero he
  obtain ⟨n, rfl, hr⟩ := right_nat hr
  rw [Int.toNat_natCast]
  have hlen := h.len
  unfold Tm.L at hlen
  rw [routes2_length] at hlen hc
  have hkey : getB (holdR s g t.a t.b) s g n = true → ∃ o', (bs g n, o') ∈ (pickT s t.a t.b).toL := fun hb => (getB_iff h.oka h.okb hg hr).1 hb
  have hn := (right_parts hr).2.2.1
  refine ⟨?_, ?_, ?_, fun x hx => ?_⟩
  · show (insA s _ _ _).Ok
    unfold insA; split
    · exact h.oka
    · exact ins_ok h.oka
  · show (insB s _ _ _).Ok
    unfold insB; split
    · exact ins_ok h.okb
    · exact h.okb
  · show (routes2 (insA s _ _ _) (insB s _ _ _)).length ≤ 64
    rw [routes2_length]
    cases s with
    | true =>
      show t.a.toL.length + (t.b.ins _ _).toL.length ≤ 64
      rw [toL_ins h.okb _ (by omega)]
      rcases hc with hc | hc
      · obtain ⟨o', ho'⟩ := hkey hc
        rw [putL_same (toL_sorted h.okb) ho']; exact hlen
      · have := putL_length (q := bs g n) (w := o) t.b.toL
        omega
    | false =>
      show (t.a.ins _ _).toL.length + t.b.toL.length ≤ 64
      rw [toL_ins h.oka _ (by omega)]
      rcases hc with hc | hc
      · obtain ⟨o', ho'⟩ := hkey hc
        rw [putL_same (toL_sorted h.oka) ho']; exact hlen
      · have := putL_length (q := bs g n) (w := o) t.a.toL
        omega
  · have hm := mem_routes2.1 hx
    have hold : (x.p, x.o) ∈ (pickT x.s t.a t.b).toL → (x.p.length : Int) ≤ digitsI x.s ∧ okI x.o ∧ 1 ≤ x.o := fun k => h.own x (mem_routes2.2 k)
    have hnew : x.s = s → (x.p, x.o) ∈ ((pickT s t.a t.b).ins (bs g n) o).toL → (x.p.length : Int) ≤ digitsI x.s ∧ okI x.o ∧ 1 ≤ x.o := fun hs k => by
      rcases (mem_ins (by omega) (ok_pick h.oka h.okb) _).1 k with k | ⟨_, k⟩
      · injection k with k1 k2
        rw [k1, k2, bs_length, hs]
        exact ⟨hn, ho, ho1⟩
      · exact hold (by rw [hs]; exact k)
    cases s <;> cases hs : x.s <;> rw [hs] at hm
    · exact hs ▸ hnew hs hm
    · exact hs ▸ hold (by rw [hs]; exact hm)
    · exact hs ▸ hold (by rw [hs]; exact hm)
    · exact hs ▸ hnew hs hm
/-- what has fewer routes -/
theorem fit_less {t u : Tm} (h : t.Fit) (oka : u.a.Ok) (okb : u.b.Ok) (la : u.a.toL.Sublist t.a.toL) (lb : u.b.toL.Sublist t.b.toL) : u.Fit := by
  refine ⟨oka, okb, ?_, fun x hx => h.own x ?_⟩
  · have := h.len
    unfold Tm.L at this ⊢
    rw [routes2_length] at this ⊢
    have h1 := la.length_le
    have h2 := lb.length_le
    omega
  · have hm := mem_routes2.1 hx
    refine mem_routes2.2 ?_
    cases hs : x.s <;> rw [hs] at hm
    · exact la.subset hm
    · exact lb.subset hm
theorem fit_drop {t : Tm} (h : t.Fit) (s : Bool) (p : Bs) : Tm.Fit ⟨delA s p t.a, delB s p t.b⟩ := by
  have k : ∀ {t : Tr}, t.Ok → (t.del p).toL.Sublist t.toL := fun ht => by rw [toL_del ht]; exact List.filter_sublist
  refine fit_less h ?_ ?_ ?_ ?_
  · show (delA s p t.a).Ok; unfold delA; split; exact h.oka; exact del_ok h.oka
  · show (delB s p t.b).Ok; unfold delB; split; exact del_ok h.okb; exact h.okb
  · show (delA s p t.a).toL.Sublist _; unfold delA; split; exact List.Sublist.refl _; exact k h.oka
  · show (delB s p t.b).toL.Sublist _; unfold delB; split; exact k h.okb; exact List.Sublist.refl _
theorem dels_toL {ta tb : Tr} (oka : ta.Ok) (okb : tb.Ok) (o : Int) (s : Bool) : (dels o s (routes2 ta tb) (pickT s ta tb)).toL = (pickT s ta tb).toL.filter (fun y => decide (y.2 ≠ o)) := by
  have hok := ok_pick (s := s) oka okb
  refine sorted_ext (toL_sorted (dels_ok hok)) (srt_filter (toL_sorted hok) _) fun y => ?_
  rw [mem_dels hok, List.mem_filter, decide_eq_true_eq]
  constructor
  · rintro ⟨h1, h2⟩
    exact ⟨h1, fun e => h2 ⟨s, y.1, y.2⟩ (mem_routes2.2 h1) rfl e rfl⟩
  · rintro ⟨h1, h2⟩
    refine ⟨h1, fun x hx hs hxo e => h2 ?_⟩
    have hm := mem_routes2.1 hx
    rw [hs] at hm
    have := srt_key (toL_sorted hok) h1 hm e
    rw [this]
    exact hxo
theorem fit_all {t : Tm} (h : t.Fit) (o : Int) : Tm.Fit ⟨dels o false t.L t.a, dels o true t.L t.b⟩ :=
  fit_less h (dels_ok h.oka) (dels_ok h.okb) (by have := dels_toL h.oka h.okb o false; show (dels o false (routes2 t.a t.b) t.a).toL.Sublist _; rw [show pickT false t.a t.b = t.a from rfl] at this; rw [this]; exact List.filter_sublist)
    (by have := dels_toL h.oka h.okb o true; show (dels o true (routes2 t.a t.b) t.b).toL.Sublist _; rw [show pickT true t.a t.b = t.b from rfl] at this; rw [this]; exact List.filter_sublist)
theorem fit_do {t : Tm} (h : t.Fit) {x : Opm} (hx : x.Ok) : (doT t x).Fit := by
  unfold doT
  split
  · split
    · rename_i he; exact fit_put h hx.g hx.o he
    · exact h
  · split
    · split
      · exact fit_drop h _ _
      · exact h
    · split
      · exact fit_all h _
      · exact h
structure DoW (w : World) (C : List Value) (X : World) : Prop where
  op : Whole X w.heap.size 31 C.toArray
  bel : Below w.heap.size w X
set_option maxRecDepth 100000 in
set_option maxHeartbeats 8000000 in
theorem do_any {w : World} {t : Tm} {q : Option Nat} (h : TrW w t q) (hf : t.Fit) {x : Opm} (hx : x.Ok) : Calls Try.prog 8 #[ptrV q, .agg x.cells.toArray] w fun e w' => ∃ k, e = .returned (.tuple #[ptrV k, .int .i64 (doE t x : Nat)]) ∧ TrW w' (doT t x) k ∧ Below w.heap.size w w' := by
  have HQ := Lib.hid h
  have HPUT := Lib.hid (fun X (hX : Below w.heap.size w X) => put_any (h.below hX) hf.oka hf.okb x.s x.g hx.g x.z hx.z0 hx.z1 x.o hx.o hf.len)
  have HDROP := Lib.hid (fun X (hX : Below w.heap.size w X) => drop_any (h.below hX) hf.oka hf.okb x.s x.g hx.g x.z hx.z0 hx.z1)
  have HALL := Lib.hid (fun X (hX : Below w.heap.size w X) => dropAll_any (h.below hX) hf.oka hf.okb x.o)
  have HPL := Lib.hid (prefL_length x.s x.g x.z)
  have HCL := Lib.hid (show ∀ X, Whole X w.heap.size 31 x.cells.toArray → X.rangeAt w.heap.size 1 (prefL x.s x.g x.z) ∧ X.cell? ⟨w.heap.size, 0, none⟩ = some (.int .i64 x.k) ∧ X.cell? ⟨w.heap.size, 19, none⟩ = some (.int .i64 x.o) from fun X h => ⟨fun j v hj => by rw [h.cell, List.getElem?_toArray]; exact x.pref hj, by rw [h.cell]; rfl, by rw [h.cell, List.getElem?_toArray]; exact x.owner⟩)
  have HLN := Lib.hid x.len
  obtain ⟨PG, hPG⟩ : ∃ PG, prefL x.s x.g x.z = PG := ⟨_, rfl⟩
  obtain ⟨C, hC⟩ : ∃ C, x.cells = C := ⟨_, rfl⟩
  rw [hPG] at HPUT HDROP HPL HCL
  rw [hC] at HCL HLN ⊢
  clear hPG hC hx hf h
  obtain ⟨E, hE⟩ : ∃ E, doE t x = E := ⟨_, rfl⟩
  obtain ⟨T, hT⟩ : ∃ T, doT t x = T := ⟨_, rfl⟩
  have HE := Lib.hid (show E = doE t x ∧ T = doT t x from ⟨hE.symm, hT.symm⟩)
  unfold doE doT at HE
  rw [hE, hT]
  clear hE hT
  obtain ⟨pq, hpq⟩ : ∃ pq, ptrV q = pq := ⟨_, rfl⟩
  have HPQ := Lib.hid hpq
  rw [hpq] at HPUT HDROP HALL ⊢
  clear hpq
  go_enter Try.func8, Try.ntmps8
  go_upto_region 3 with fail
  refine cut_world (fun X => DoW w C X) ⟨Whole.new _ _ _, below_alloc (Below.refl _ _) _⟩ ?_
  rintro X hX
  have HX := Lib.hid hX
  clear hX
  have c0 := (HCL.out X HX.out.op).2.1
  have c19 := (HCL.out X HX.out.op).2.2
  by_cases hk0 : x.k = 0
  · rw [hk0] at c0
    rw [if_pos hk0, if_pos hk0] at HE
    have hEE := HE.out.1
    have HT := Lib.hid HE.out.2
    rw [← hEE] at HPUT HT
    clear hk0 hEE HE
    rcases Nat.eq_zero_or_pos E with h0 | h0
    · subst h0
      rw [if_pos rfl] at HT
      go_wp2_with (first
        | (refine wpList_load_mid rfl 29 (.tmp 16) rfl w.heap.size 1 rfl PG _ (HCL.out _ HX.out.op).1 rfl rfl (by rw [HPL.out]; kernel_rfl) ?_)
        | (go_at_call 21; refine (HPUT.out _ HX.out.bel).mono ?_; rintro e X2 ⟨k, rfl, hb, h0, h1⟩; have HX2 := Lib.hid (And.intro hb h1); clear hb h0 h1))
      go_ret2
      obtain ⟨r, rfl, hr⟩ := HX2.out.2 (by trivial)
      exact ⟨some r, rfl, by rw [HT.out]; exact hr, HX.out.bel.trans (HX2.out.1.mono HX.out.bel.size)⟩
    · rw [if_neg (by omega)] at HT
      have hne : (((E : Nat) : Int) != 0) = true := by simp; omega
      go_wp2_with (first
        | (refine wpList_load_mid rfl 29 (.tmp 16) rfl w.heap.size 1 rfl PG _ (HCL.out _ HX.out.op).1 rfl rfl (by rw [HPL.out]; kernel_rfl) ?_)
        | (go_at_call 21; refine (HPUT.out _ HX.out.bel).mono ?_; rintro e X2 ⟨k, rfl, hb, h0, h1⟩; have HX2 := Lib.hid hb; clear hb h0 h1))
      go_ret2
      have hb := HX.out.bel.trans (HX2.out.mono HX.out.bel.size)
      exact ⟨q, (by first | (rw [HPQ.out]; rfl) | rw [HPQ.out]), by rw [HT.out]; exact HQ.out.below hb, hb⟩
  · rw [if_neg hk0, if_neg hk0] at HE
    by_cases hk1 : x.k = 1
    · rw [hk1] at c0
      rw [if_pos hk1, if_pos hk1] at HE
      have hEE := HE.out.1
      have HT := Lib.hid HE.out.2
      rw [← hEE] at HDROP HT
      clear hk0 hk1 hEE HE
      rcases Nat.eq_zero_or_pos E with h0 | h0
      · subst h0
        rw [if_pos rfl] at HT
        go_wp2_with (first
          | (refine wpList_load_mid rfl 29 (.tmp 27) rfl w.heap.size 1 rfl PG _ (HCL.out _ HX.out.op).1 rfl rfl (by rw [HPL.out]; kernel_rfl) ?_)
          | (go_at_call 22; refine (HDROP.out _ HX.out.bel).mono ?_; rintro e X2 ⟨k, rfl, hb, h0, h1⟩; have HX2 := Lib.hid (And.intro hb h1); clear hb h0 h1))
        go_ret2
        obtain ⟨r, rfl, hr⟩ := HX2.out.2 (by trivial)
        exact ⟨some r, rfl, by rw [HT.out]; exact hr, HX.out.bel.trans (HX2.out.1.mono HX.out.bel.size)⟩
      · rw [if_neg (by omega)] at HT
        have hne : (((E : Nat) : Int) != 0) = true := by simp; omega
        go_wp2_with (first
          | (refine wpList_load_mid rfl 29 (.tmp 27) rfl w.heap.size 1 rfl PG _ (HCL.out _ HX.out.op).1 rfl rfl (by rw [HPL.out]; kernel_rfl) ?_)
          | (go_at_call 22; refine (HDROP.out _ HX.out.bel).mono ?_; rintro e X2 ⟨k, rfl, hb, h0, h1⟩; have HX2 := Lib.hid hb; clear hb h0 h1))
        go_ret2
        have hb := HX.out.bel.trans (HX2.out.mono HX.out.bel.size)
        exact ⟨q, (by first | (rw [HPQ.out]; rfl) | rw [HPQ.out]), by rw [HT.out]; exact HQ.out.below hb, hb⟩
    · rw [if_neg hk1, if_neg hk1] at HE
      have hEE := HE.out.1
      subst hEE
      have n0 : (x.k == 0) = false := by simp [hk0]
      have n1 : (x.k == 1) = false := by simp [hk1]
      by_cases hk2 : x.k = 2
      · rw [hk2] at c0 n0 n1
        rw [if_pos hk2] at HE
        have HT := Lib.hid HE.out.2
        clear hk0 hk1 hk2 HE n0 n1
        go_wp2_with (first
          | (go_at_call 23; refine (HALL.out _ HX.out.bel).mono ?_; rintro e X2 ⟨r, rfl, hr, hb⟩; have HX2 := Lib.hid (And.intro hb hr); clear hb hr))
        go_ret2
        exact ⟨some r, rfl, by rw [HT.out]; exact HX2.out.2, HX.out.bel.trans (HX2.out.1.mono HX.out.bel.size)⟩
      · rw [if_neg hk2] at HE
        have HT := Lib.hid HE.out.2
        have n2 : (x.k == 2) = false := by simp [hk2]
        clear hk0 hk1 hk2 HE
        generalize x.k = kk at *
        go_wp2_with fail
        go_ret2
        exact ⟨q, (by first | (rw [HPQ.out]; rfl) | rw [HPQ.out]), by rw [HT.out]; exact HQ.out.below HX.out.bel, HX.out.bel⟩
end Tri
end Go.Proofs.Ytcpfchfhcfdcpaa
