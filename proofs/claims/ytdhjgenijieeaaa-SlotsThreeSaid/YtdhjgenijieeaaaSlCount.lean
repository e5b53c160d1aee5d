/- Package slots: Indices, Count, Ready, Tired. -/
import Derived.Test.YtdhjgenijieeaaaSlFind
import Derived.Test.YtdhjgenijieeaaaRowS
import Derived.Great.Walk
namespace Go.Proofs.Ytdhjgenijieeaaa
namespace Sl
open Go.ChangeShapes Go.WideShapes Go.ChangeAt Go.RowKit
open Num Mem Words Chacha Aead Poly Ops Quiet WinT Win Pr RowS

def ind (b : Bool) (p : PS) : List Nat := if b = true then [p.l] else []
theorem ind_snoc (b : Bool) (p : PS) (N : List Nat) : (b = true → N ++ [p.l] = N ++ ind b p) ∧ (b = false → N = N ++ ind b p) := ⟨fun h => by rw [h]; rfl, fun h => by rw [h]; simp [ind]⟩
def nums (x : SS) : List Nat := ind x.hp x.p ++ (ind x.hc x.c ++ ind x.hn x.n)
theorem ind_le (b : Bool) (p : PS) : (ind b p).length ≤ 1 := by unfold ind; split <;> simp
theorem nums_le (x : SS) : (nums x).length ≤ 3 := by
  unfold nums
  have h1 := ind_le x.hp x.p
  have h2 := ind_le x.hc x.c
  have h3 := ind_le x.hn x.n
  simp only [List.length_append]
  omega
def u32L (l : List Nat) : List Value := l.map fun (n : Nat) => Value.int .u32 (n : Nat)
theorem u32L_length (l : List Nat) : (u32L l).length = l.length := by unfold u32L; rw [List.length_map]
theorem info_u32 : (Try.prog.info? 25).map (fun i => (i.zero, i.size, i.bytes)) = some (some (.int .u32 0), 1, 4) := by kernel_rfl
theorem owns_same {X Y : World} {base : Nat} {e : TypeId} {size : Nat} {v : Value} {n : Nat} {xs : List Value} (h : X.ownsRow base e size v n xs) (k : ∀ g cs, Whole X g e cs → v.ownBlock = some g → Whole Y g e cs) : Y.ownsRow base e size v n xs := by
  refine ⟨h.1, ?_⟩
  rcases h.2 with h0 | ⟨c, cap, cur, hv, hB, hh, rest⟩
  · exact .inl h0
  · exact .inr ⟨c, cap, cur, hv, hB, k c cur hh (by rw [hv]; rfl), rest⟩
theorem own_caps {X : World} {B e n c size : Nat} {A : Option Addr} {xs : List Value} (h : X.ownsRow B e size (.slice A n c) n xs) : n ≤ c ∧ c ≤ 9223372036854775807 := by
  have hm : maxLen = 9223372036854775807 := rfl
  rcases h.2 with ⟨h0, h1⟩ | ⟨g, cap, cur, hv, _, _, h1, h2, _⟩
  · injection h0 with _ _ e
    omega
  · injection hv with _ _ e
    omega
theorem wpList_rowOne {P : Program} {ops : Array Oper} {rest : List Oper} {o : Oper} {a : Act} {w : World} {Q : Exit → Act → World → Prop} (hg : o.guard = none) (t e : TypeId) (x : Operand) (ho : o.op = .buildSlice t 1 #[(0, x)])
    (v : Value) (hx : a.eval x = v) (hu : P.underlying t = some (.slice e)) (cells : Array Value) (hb : P.builtSlice e 1 [(0, v)] = some cells)
    (h : wpList P ops Q rest (a.put o.dst (.slice (some ⟨w.heap.size, 0, none⟩) 1 1)) (w.alloc (.cells cells e))) : wpList P ops Q (o :: rest) a w := by
  have e1 : P.builtSlice e 1 ((#[(0, x)] : Array (Nat × Operand)).map fun (i, x) => (i, a.eval x)).toList = some cells := by simpa [hx] using hb
  exact Great.wpList_buildSliceTo hg t e 1 _ ho _ rfl _ rfl hu cells e1 h
theorem one_built (z : Int) : Try.prog.builtSlice 25 1 [(0, .int .u32 z)] = some [Value.int .u32 z].toArray := by kernel_rfl
def nil0 : List Nat := []
structure InW (w : World) (B : Nat) (x : SS) (A : Option Addr) (c : Nat) (N : List Nat) (X : World) : Prop where
  arg : Whole X B 36 (slL x).toArray
  own : X.ownsRow (B + 1) 25 1 (.slice A N.length c) N.length (u32L N)
  bel : Below B w X
theorem InW.below {w : World} {B : Nat} {x : SS} {A : Option Addr} {c : Nat} {N : List Nat} {X Y : World} (h : InW w B x A c N X) (hb : Below X.heap.size X Y) : InW w B x A c N Y :=
  ⟨h.arg.below hb h.arg.lt, owns_same h.own fun _ _ hw _ => hw.below hb hw.lt, h.bel.trans (hb.mono (Nat.le_of_lt h.arg.lt))⟩
theorem u32L_snoc (N : List Nat) (l : Nat) : u32L (N ++ [l]) = u32L N ++ [.int .u32 (l : Nat)] := by unfold u32L; rw [List.map_append]; rfl
theorem InW.push {w : World} {B : Nat} {x : SS} {A A' : Option Addr} {c c' : Nat} {N : List Nat} {X Y : World} (l : Nat) (h : InW w B x A c N X) (ho : Y.ownsRow (B + 1) 25 1 (.slice A' (N.length + 1) c') (N.length + 1) (u32L N ++ [.int .u32 (l : Nat)])) (hb : Below (B + 1) X Y) : InW w B x A' c' (N ++ [l]) Y :=
  ⟨h.arg.below hb (Nat.lt_succ_self _), by rw [List.length_append, List.length_singleton, u32L_snoc]; exact ho, h.bel.trans (hb.mono (Nat.le_succ _))⟩
theorem wpList_built2 {P : Program} {ops : Array Oper} {rest : List Oper} {o : Oper} {a : Act} {w : World} {Q : Exit → Act → World → Prop} (hg : o.guard = none) (t : TypeId) (k1 k2 : Nat) (x1 x2 : Operand) (ho : o.op = .build t #[(k1, x1), (k2, x2)])
    (v1 v2 : Value) (h1 : a.eval x1 = v1) (h2 : a.eval x2 = v2) (vs : Array Value) (hb : P.built t [(k1, v1), (k2, v2)] = some vs) (h : wpList P ops Q rest (a.put o.dst (.agg vs)) w) : wpList P ops Q (o :: rest) a w := by
  have e : P.built t ((#[(k1, x1), (k2, x2)] : Array (Nat × Operand)).map fun (i, x) => (i, a.eval x)).toList = some vs := by simpa [h1, h2] using hb
  refine wpList_build hg t #[(k1, x1), (k2, x2)] ho (by rw [e]; rfl) ?_
  rw [e]
  exact h
def qlcL (B : Nat) : List Value := [.pointer (some ⟨B, 0, none⟩), .pointer (some ⟨B, 3, none⟩), .pointer (some ⟨B, 1, none⟩), .pointer (some ⟨B, 75, none⟩), .pointer (some ⟨B, 2, none⟩), .pointer (some ⟨B, 147, none⟩)]
theorem plc_built' (B : Nat) : Try.prog.built 71 [(0, .agg (p2 B 0 3).toArray), (1, .agg (p2 B 1 75).toArray), (2, .agg (p2 B 2 147).toArray)] = some (qlcL B).toArray := by kernel_rfl
theorem jndex0 (B : Nat) (w : World) : (Instr.index 71 (.agg (qlcL B).toArray) (.int .i64 0)).run Try.prog w = .ok (.agg (p2 B 0 3).toArray) w := by kernel_rfl
theorem jndex1 (B : Nat) (w : World) : (Instr.index 71 (.agg (qlcL B).toArray) (.int .i64 1)).run Try.prog w = .ok (.agg (p2 B 1 75).toArray) w := by kernel_rfl
theorem jndex2 (B : Nat) (w : World) : (Instr.index 71 (.agg (qlcL B).toArray) (.int .i64 2)).run Try.prog w = .ok (.agg (p2 B 2 147).toArray) w := by kernel_rfl
set_option maxRecDepth 100000 in
set_option maxHeartbeats 8000000 in
theorem indices_any (x : SS) (w : World) : Calls Try.prog 22 #[slV x] w fun e w' => ∃ A, e = .returned (.slice A (nums x).length (nums x).length) ∧ Below w.heap.size w w' := by
  unfold slV
  have hz2 := zero_place
  have HSZ := Lib.hid (And.intro (slL_length x) (sl_one x))
  have HNL := Lib.hid (nums_le x)
  obtain ⟨L, hL⟩ : ∃ L, slL x = L := ⟨_, rfl⟩
  have HL := Lib.hid hL
  rw [hL] at HSZ ⊢
  clear hL
  go_enter Try.func22, Try.ntmps22
  go_upto_region 2 with fail
  refine cut_world (fun X => InW w w.heap.size x none 0 nil0 X) ⟨by rw [HL.out]; exact Whole.new _ _ _, ⟨rfl, .inl ⟨rfl, rfl⟩⟩, below_alloc (Below.refl _ _) _⟩ ?_
  rintro X hX
  generalize hB : w.heap.size = B at hX ⊢
  have HB := Lib.hid hB
  have HX := Lib.hid hX
  clear hB hX
  have HB1 := Lib.hid (p2_built B 0 3)
  have HB2 := Lib.hid (p2_built B 1 75)
  have HB3 := Lib.hid (p2_built B 2 147)
  have HB4 := Lib.hid (plc_built' B)
  go_wp2_with (first
    | (refine Sl.wpList_built2 rfl 70 0 1 (.tmp 6) (.tmp 7) rfl (.pointer (some ⟨B, 0, none⟩)) (.pointer (some ⟨B, 3, none⟩)) rfl rfl (p2 B 0 3).toArray HB1.out ?_)
    | (refine Sl.wpList_built2 rfl 70 0 1 (.tmp 9) (.tmp 10) rfl (.pointer (some ⟨B, 1, none⟩)) (.pointer (some ⟨B, 75, none⟩)) rfl rfl (p2 B 1 75).toArray HB2.out ?_)
    | (refine Sl.wpList_built2 rfl 70 0 1 (.tmp 12) (.tmp 13) rfl (.pointer (some ⟨B, 2, none⟩)) (.pointer (some ⟨B, 147, none⟩)) rfl rfl (p2 B 2 147).toArray HB3.out ?_)
    | (refine wpList_built3 rfl 71 0 1 2 (.tmp 8) (.tmp 11) (.tmp 14) rfl (.agg (p2 B 0 3).toArray) (.agg (p2 B 1 75).toArray) (.agg (p2 B 2 147).toArray) rfl rfl rfl (qlcL B).toArray HB4.out ?_))
  go_loopw [3, 16] (fun s i X => (i = .int .i64 0 ∧ ∃ A c, s = .slice A 0 c ∧ True ∧ InW w B x A c nil0 X) ∨ (i = .int .i64 1 ∧ ∃ A c, s = .slice A (ind x.hp x.p).length c ∧ True ∧ InW w B x A c (ind x.hp x.p) X) ∨ (i = .int .i64 2 ∧ ∃ A c, s = .slice A (ind x.hp x.p ++ ind x.hc x.c).length c ∧ True ∧ InW w B x A c (ind x.hp x.p ++ ind x.hc x.c) X) ∨ (i = .int .i64 3 ∧ ∃ A c, s = .slice A (ind x.hp x.p ++ ind x.hc x.c ++ ind x.hn x.n).length c ∧ True ∧ InW w B x A c (ind x.hp x.p ++ ind x.hc x.c ++ ind x.hn x.n) X)) (fun _ i _ => 3 - (intOf i).toNat)
  case atStart => exact .inl ⟨rfl, none, 0, rfl, trivial, HX.out⟩
  case round =>
    clear HX
    rcases hrel with ⟨rfl, A, c, rfl, _, hT⟩ | ⟨rfl, A, c, rfl, _, hT⟩ | ⟨rfl, A, c, rfl, _, hT⟩ | ⟨rfl, A, c, rfl, _, hT⟩
    ·
      have HT := Lib.hid hT
      clear hT
      obtain ⟨hb, hhb⟩ : ∃ b, x.hp = b := ⟨_, rfl⟩
      have HHB := Lib.hid hhb
      have HNN := Lib.hid (show (nil0).length ≤ 3 from by have h0 : nil0.length = 0 := rfl; have h1 := ind_le x.hp x.p; have h2 := ind_le x.hc x.c; have h3 := ind_le x.hn x.n; (try simp only [List.length_append]); omega)
      have HPU := Lib.hid (fun (X Y : World) (A A' : Option Addr) (c c' : Nat) (h : InW w B x A c (nil0) X) ho hb => InW.push (Y := Y) (A' := A') (c' := c') x.p.l h ho hb)
      have HCL := Lib.hid (show ∀ V A c N, InW w B x A c N V → V.cell? ⟨B, 0, none⟩ = some (.bool hb) ∧ V.cell? ⟨B, 67, none⟩ = some (.int .u32 (x.p.l : Nat)) from fun V A c N hV => ⟨by rw [← hhb]; exact at_hp hV.arg, loc_p hV.arg⟩)
      have HST := Lib.hid (show (hb = true → nil0 ++ [x.p.l] = ind x.hp x.p) ∧ (hb = false → nil0 = ind x.hp x.p) from by rw [← hhb]; exact ind_snoc x.hp x.p (nil0))
      obtain ⟨LI, hLI⟩ : ∃ LI : Int, ((x.p.l : Nat) : Int) = LI := ⟨_, rfl⟩
      have HM := Lib.hid (show nil0.length = 0 from rfl)
      obtain ⟨N2, hN2⟩ : ∃ N, ind x.hp x.p = N := ⟨_, rfl⟩
      rw [hN2] at HST
      have HN2 := Lib.hid hN2
      obtain ⟨N, hN⟩ : ∃ N, nil0 = N := ⟨_, rfl⟩
      rw [hLI] at HCL HPU
      rw [hN] at HT HNN HPU HST HM
      clear hhb hLI hN hN2
      go_upto_region 5 with (first
        | (refine wpList_index rfl 71 (.tmp 15) (.tmp 16) rfl _ _ _ rfl rfl (jndex0 B _) ?_)
        | (refine wpList_store_row rfl 70 (.tmp 5) (.tmp 18) rfl wr.heap.size (p2 B 0 3).toArray rfl rfl 70 _ (Whole.new _ _ _) (by kernel_rfl) (by kernel_rfl) (p2_one B 0 3) ?_))
      refine cut_world (fun V => InW w B x A c N V ∧ Whole V wr.heap.size 70 (p2 B 0 3).toArray) ⟨HT.out.below (below_var _ _ _ _), setRow_heap _ _ _ _ _ _ (Whole.new _ _ _)⟩ ?_
      rintro V hV
      have HV := Lib.hid hV
      generalize wr.heap.size = M at HV ⊢
      clear hV HT
      have c0 : V.cell? ⟨M, 0, none⟩ = some (.pointer (some ⟨B, 0, none⟩)) := HV.out.2.cell 0
      have c1 : V.cell? ⟨M, 1, none⟩ = some (.pointer (some ⟨B, 3, none⟩)) := HV.out.2.cell 1
      have cb := (HCL.out _ _ _ _ HV.out.1).1
      have cl := (HCL.out _ _ _ _ HV.out.1).2
      have HOWN := Lib.hid (show V.ownsRow (B + 1) 25 1 (.slice A 0 c) 0 (u32L N) from by rw [← HM.out]; exact HV.out.1.own)
      cases hb with
      | false =>
        go_wp2_with fail
        go_round
        case rel => exact .inr (.inl ⟨rfl,⟨A, c, by rw [HN2.out, ← HST.out.2 (by trivial), HM.out], trivial, by rw [HN2.out, ← HST.out.2 (by trivial)]; exact HV.out.1⟩⟩)
        case measure => simp only [intOf]; omega
      | true =>
        go_wp2_with (first
          | (refine wpList_rowOne rfl 37 25 (.tmp 29) rfl (.int .u32 LI) rfl Try.underlying37 [Value.int .u32 LI].toArray (one_built LI) ?_)
          | (at_builtin; refine wpList_pushS (w := V) [Value.int .u32 LI] 1 rfl _ _ 37 25 (.int .u32 0) 4 Try.underlying37 info_u32 rfl (by omega) rfl rfl rfl HOWN.out (Nat.succ_le_of_lt HV.out.1.arg.lt) rfl (by intro u hu; simp only [List.mem_singleton] at hu; subst hu; rfl) (by have := HNN.out; have := HM.out; omega) (by have := HNN.out; have := HM.out; omega) ?_; intro A2 c2 w3 hown hbel; have H3 := Lib.hid (HPU.out _ _ _ _ _ _ HV.out.1 (by rw [HM.out]; exact hown) hbel); clear hown hbel))
        go_round
        case rel => exact .inr (.inl ⟨rfl,⟨A2, c2, by rw [HN2.out, ← HST.out.1 (by trivial), List.length_append, List.length_singleton, HM.out], trivial, by rw [HN2.out, ← HST.out.1 (by trivial)]; exact H3.out⟩⟩)
        case measure => simp only [intOf]; omega
    ·
      have HT := Lib.hid hT
      clear hT
      obtain ⟨hb, hhb⟩ : ∃ b, x.hc = b := ⟨_, rfl⟩
      have HHB := Lib.hid hhb
      have HNN := Lib.hid (show (ind x.hp x.p).length ≤ 3 from by have h0 : nil0.length = 0 := rfl; have h1 := ind_le x.hp x.p; have h2 := ind_le x.hc x.c; have h3 := ind_le x.hn x.n; (try simp only [List.length_append]); omega)
      have HPU := Lib.hid (fun (X Y : World) (A A' : Option Addr) (c c' : Nat) (h : InW w B x A c (ind x.hp x.p) X) ho hb => InW.push (Y := Y) (A' := A') (c' := c') x.c.l h ho hb)
      have HCL := Lib.hid (show ∀ V A c N, InW w B x A c N V → V.cell? ⟨B, 1, none⟩ = some (.bool hb) ∧ V.cell? ⟨B, 139, none⟩ = some (.int .u32 (x.c.l : Nat)) from fun V A c N hV => ⟨by rw [← hhb]; exact at_hc hV.arg, loc_c hV.arg⟩)
      have HST := Lib.hid (show (hb = true → ind x.hp x.p ++ [x.c.l] = ind x.hp x.p ++ ind x.hc x.c) ∧ (hb = false → ind x.hp x.p = ind x.hp x.p ++ ind x.hc x.c) from by rw [← hhb]; exact ind_snoc x.hc x.c (ind x.hp x.p))
      obtain ⟨LI, hLI⟩ : ∃ LI : Int, ((x.c.l : Nat) : Int) = LI := ⟨_, rfl⟩
      obtain ⟨m, hm⟩ : ∃ m, (ind x.hp x.p).length = m := ⟨_, rfl⟩; have HM := Lib.hid hm; rw [hm]; clear hm
      obtain ⟨N2, hN2⟩ : ∃ N, ind x.hp x.p ++ ind x.hc x.c = N := ⟨_, rfl⟩
      rw [hN2] at HST
      have HN2 := Lib.hid hN2
      obtain ⟨N, hN⟩ : ∃ N, ind x.hp x.p = N := ⟨_, rfl⟩
      rw [hLI] at HCL HPU
      rw [hN] at HT HNN HPU HST HM
      clear hhb hLI hN hN2
      go_upto_region 5 with (first
        | (refine wpList_index rfl 71 (.tmp 15) (.tmp 16) rfl _ _ _ rfl rfl (jndex1 B _) ?_)
        | (refine wpList_store_row rfl 70 (.tmp 5) (.tmp 18) rfl wr.heap.size (p2 B 1 75).toArray rfl rfl 70 _ (Whole.new _ _ _) (by kernel_rfl) (by kernel_rfl) (p2_one B 1 75) ?_))
      refine cut_world (fun V => InW w B x A c N V ∧ Whole V wr.heap.size 70 (p2 B 1 75).toArray) ⟨HT.out.below (below_var _ _ _ _), setRow_heap _ _ _ _ _ _ (Whole.new _ _ _)⟩ ?_
      rintro V hV
      have HV := Lib.hid hV
      generalize wr.heap.size = M at HV ⊢
      clear hV HT
      have c0 : V.cell? ⟨M, 0, none⟩ = some (.pointer (some ⟨B, 1, none⟩)) := HV.out.2.cell 0
      have c1 : V.cell? ⟨M, 1, none⟩ = some (.pointer (some ⟨B, 75, none⟩)) := HV.out.2.cell 1
      have cb := (HCL.out _ _ _ _ HV.out.1).1
      have cl := (HCL.out _ _ _ _ HV.out.1).2
      have HOWN := Lib.hid (show V.ownsRow (B + 1) 25 1 (.slice A m c) m (u32L N) from by rw [← HM.out]; exact HV.out.1.own)
      cases hb with
      | false =>
        go_wp2_with fail
        go_round
        case rel => exact .inr (.inr (.inl ⟨rfl,⟨A, c, by rw [HN2.out, ← HST.out.2 (by trivial), HM.out], trivial, by rw [HN2.out, ← HST.out.2 (by trivial)]; exact HV.out.1⟩⟩))
        case measure => simp only [intOf]; omega
      | true =>
        go_wp2_with (first
          | (refine wpList_rowOne rfl 37 25 (.tmp 29) rfl (.int .u32 LI) rfl Try.underlying37 [Value.int .u32 LI].toArray (one_built LI) ?_)
          | (at_builtin; refine wpList_pushS (w := V) [Value.int .u32 LI] 1 rfl _ _ 37 25 (.int .u32 0) 4 Try.underlying37 info_u32 rfl (by omega) rfl rfl rfl HOWN.out (Nat.succ_le_of_lt HV.out.1.arg.lt) rfl (by intro u hu; simp only [List.mem_singleton] at hu; subst hu; rfl) (by have := HNN.out; have := HM.out; omega) (by have := HNN.out; have := HM.out; omega) ?_; intro A2 c2 w3 hown hbel; have H3 := Lib.hid (HPU.out _ _ _ _ _ _ HV.out.1 (by rw [HM.out]; exact hown) hbel); clear hown hbel))
        go_round
        case rel => exact .inr (.inr (.inl ⟨rfl,⟨A2, c2, by rw [HN2.out, ← HST.out.1 (by trivial), List.length_append, List.length_singleton, HM.out], trivial, by rw [HN2.out, ← HST.out.1 (by trivial)]; exact H3.out⟩⟩))
        case measure => simp only [intOf]; omega
    ·
      have HT := Lib.hid hT
      clear hT
      obtain ⟨hb, hhb⟩ : ∃ b, x.hn = b := ⟨_, rfl⟩
      have HHB := Lib.hid hhb
      have HNN := Lib.hid (show (ind x.hp x.p ++ ind x.hc x.c).length ≤ 3 from by have h0 : nil0.length = 0 := rfl; have h1 := ind_le x.hp x.p; have h2 := ind_le x.hc x.c; have h3 := ind_le x.hn x.n; (try simp only [List.length_append]); omega)
      have HPU := Lib.hid (fun (X Y : World) (A A' : Option Addr) (c c' : Nat) (h : InW w B x A c (ind x.hp x.p ++ ind x.hc x.c) X) ho hb => InW.push (Y := Y) (A' := A') (c' := c') x.n.l h ho hb)
      have HCL := Lib.hid (show ∀ V A c N, InW w B x A c N V → V.cell? ⟨B, 2, none⟩ = some (.bool hb) ∧ V.cell? ⟨B, 211, none⟩ = some (.int .u32 (x.n.l : Nat)) from fun V A c N hV => ⟨by rw [← hhb]; exact at_hn hV.arg, loc_n hV.arg⟩)
      have HST := Lib.hid (show (hb = true → ind x.hp x.p ++ ind x.hc x.c ++ [x.n.l] = ind x.hp x.p ++ ind x.hc x.c ++ ind x.hn x.n) ∧ (hb = false → ind x.hp x.p ++ ind x.hc x.c = ind x.hp x.p ++ ind x.hc x.c ++ ind x.hn x.n) from by rw [← hhb]; exact ind_snoc x.hn x.n (ind x.hp x.p ++ ind x.hc x.c))
      obtain ⟨LI, hLI⟩ : ∃ LI : Int, ((x.n.l : Nat) : Int) = LI := ⟨_, rfl⟩
      obtain ⟨m, hm⟩ : ∃ m, (ind x.hp x.p ++ ind x.hc x.c).length = m := ⟨_, rfl⟩; have HM := Lib.hid hm; rw [hm]; clear hm
      obtain ⟨N2, hN2⟩ : ∃ N, ind x.hp x.p ++ ind x.hc x.c ++ ind x.hn x.n = N := ⟨_, rfl⟩
      rw [hN2] at HST
      have HN2 := Lib.hid hN2
      obtain ⟨N, hN⟩ : ∃ N, ind x.hp x.p ++ ind x.hc x.c = N := ⟨_, rfl⟩
      rw [hLI] at HCL HPU
      rw [hN] at HT HNN HPU HST HM
      clear hhb hLI hN hN2
      go_upto_region 5 with (first
        | (refine wpList_index rfl 71 (.tmp 15) (.tmp 16) rfl _ _ _ rfl rfl (jndex2 B _) ?_)
        | (refine wpList_store_row rfl 70 (.tmp 5) (.tmp 18) rfl wr.heap.size (p2 B 2 147).toArray rfl rfl 70 _ (Whole.new _ _ _) (by kernel_rfl) (by kernel_rfl) (p2_one B 2 147) ?_))
      refine cut_world (fun V => InW w B x A c N V ∧ Whole V wr.heap.size 70 (p2 B 2 147).toArray) ⟨HT.out.below (below_var _ _ _ _), setRow_heap _ _ _ _ _ _ (Whole.new _ _ _)⟩ ?_
      rintro V hV
      have HV := Lib.hid hV
      generalize wr.heap.size = M at HV ⊢
      clear hV HT
      have c0 : V.cell? ⟨M, 0, none⟩ = some (.pointer (some ⟨B, 2, none⟩)) := HV.out.2.cell 0
      have c1 : V.cell? ⟨M, 1, none⟩ = some (.pointer (some ⟨B, 147, none⟩)) := HV.out.2.cell 1
      have cb := (HCL.out _ _ _ _ HV.out.1).1
      have cl := (HCL.out _ _ _ _ HV.out.1).2
      have HOWN := Lib.hid (show V.ownsRow (B + 1) 25 1 (.slice A m c) m (u32L N) from by rw [← HM.out]; exact HV.out.1.own)
      cases hb with
      | false =>
        go_wp2_with fail
        go_round
        case rel => exact .inr (.inr (.inr ⟨rfl,⟨A, c, by rw [HN2.out, ← HST.out.2 (by trivial), HM.out], trivial, by rw [HN2.out, ← HST.out.2 (by trivial)]; exact HV.out.1⟩⟩))
        case measure => simp only [intOf]; omega
      | true =>
        go_wp2_with (first
          | (refine wpList_rowOne rfl 37 25 (.tmp 29) rfl (.int .u32 LI) rfl Try.underlying37 [Value.int .u32 LI].toArray (one_built LI) ?_)
          | (at_builtin; refine wpList_pushS (w := V) [Value.int .u32 LI] 1 rfl _ _ 37 25 (.int .u32 0) 4 Try.underlying37 info_u32 rfl (by omega) rfl rfl rfl HOWN.out (Nat.succ_le_of_lt HV.out.1.arg.lt) rfl (by intro u hu; simp only [List.mem_singleton] at hu; subst hu; rfl) (by have := HNN.out; have := HM.out; omega) (by have := HNN.out; have := HM.out; omega) ?_; intro A2 c2 w3 hown hbel; have H3 := Lib.hid (HPU.out _ _ _ _ _ _ HV.out.1 (by rw [HM.out]; exact hown) hbel); clear hown hbel))
        go_round
        case rel => exact .inr (.inr (.inr ⟨rfl,⟨A2, c2, by rw [HN2.out, ← HST.out.1 (by trivial), List.length_append, List.length_singleton, HM.out], trivial, by rw [HN2.out, ← HST.out.1 (by trivial)]; exact H3.out⟩⟩))
        case measure => simp only [intOf]; omega
    · have HT := Lib.hid hT
      have hlen : (ind x.hp x.p ++ ind x.hc x.c ++ ind x.hn x.n) = nums x := by unfold nums; rw [List.append_assoc]
      rw [hlen] at HT ⊢
      have HC := Lib.hid (own_caps HT.out.own)
      obtain ⟨n, hn⟩ : ∃ n, (nums x).length = n := ⟨_, rfl⟩
      rw [hn] at HC HNL ⊢
      have HNE := Lib.hid hn
      clear hT hlen hn
      have hc1 := HC.out.1
      have hc2 := HNL.out
      go_wp2_with fail
      go_ret
      exact ⟨A, by rw [HNE.out]; rfl, by rw [HB.out]; exact HT.out.bel⟩
end Sl
end Go.Proofs.Ytdhjgenijieeaaa
