/- 'aditlaw12.InnerSums' returns true at every input and writes nothing that was there: the walk. -/
import Derived.Test.YtiemcfgjpcnloaaInnerAlive
namespace Go.Proofs.Ytiemcfgjpcnloaa
namespace Inner
open Go.ChangeShapes Go.WideShapes Go.ChangeAt Go.RowKit
open Num Mem Words Chacha Aead Poly Quiet

theorem row_rd {w : World} {A : Option Addr} {n c : Nat} {zs : List Int} (h : IsRow .u8 w A n c zs) : ∃ f : Nat → Nat, (∀ i, f i < 256) ∧ Rd w A n f ∧ n ≤ c ∧ c ≤ 9223372036854775807 ∧ (A = none → n = 0 ∧ c = 0) := by
  obtain ⟨f, h1, h2, h3, h4⟩ := rd_of_row h
  refine ⟨f, h1, h2, h3, h4, fun e => ?_⟩
  rcases h with ⟨_, h4, h5, _⟩ | ⟨x, h4, _⟩
  · exact ⟨h4, h5⟩
  · rw [e] at h4
    cases h4
def joinF (f : Nat → Nat) (n : Nat) (g : Nat → Nat) (i : Nat) : Nat := if i < n then f i else g (i - n)
theorem joinF_lt {f g : Nat → Nat} (hf : ∀ i, f i < 256) (hg : ∀ i, g i < 256) (n i : Nat) : joinF f n g i < 256 := by
  unfold joinF
  split
  · exact hf _
  · exact hg _
theorem sum_both (f g : Nat → Nat) (n m : Nat) (he : n % 2 = 0) : canon (sumS (joinF f n g) (n + m)) = canon (canon (sumS f n) + canon (sumS g m)) := by
  rw [canon_both, ← sumS_join f g n he m]
  rfl
def pairF (x y : Nat) (i : Nat) : Nat := if i = 0 then x / 256 else if i = 1 then x % 256 else if i = 2 then y / 256 else y % 256
theorem sum_pair (x y : Nat) : sumS (pairF x y) 4 = x + y := by
  simp [sumS, weigh, pairF]
  omega
theorem pair_cells (x y : Nat) : (#[.int .u8 ((x : Int) / 256), .int .u8 ((x : Int) % 256), .int .u8 ((y : Int) / 256), .int .u8 ((y : Int) % 256)] : Array Value) = (byteCells (pairF x y) 4).toArray := by
  rw [byteCells_lit4]
  simp [pairF]
theorem own_none (w : World) (B : Nat) (F : Nat → Nat) (hb : B ≤ w.heap.size) : Own (w.alloc (.cells #[] 5)) B 5 (some ⟨w.heap.size, 0, none⟩) 0 0 F := own_made w B 0 F hb (by omega)

/-- the same behind a guard that is met -/
theorem wpList_catFrom_if {P : Program} {ops : Array Oper} {rest : List Oper} {o : Oper} {a : Act} {Q : Exit → Act → World → Prop} {W w : World} {B k c : Nat} {A : Option Addr} {f g T : Nat → Nat} (hw : Region.wanted o (yielded ops a.tmps) = true) (s x : Operand) (t e : TypeId) (z : Value) (by_ : Nat)
    (ht : P.underlying t = some (.slice e)) (hinfo : (P.info? e).map (fun i => (i.zero, i.size, i.bytes)) = some (some z, 1, by_)) (hz : z.cells.size = 1)
    (ho : o.op = .call { callee := .builtin .append, args := #[s, x], argTypes := #[t, t] })
    (hs : a.eval s = .slice A k c) (own : Own w B e A k c f) (bel : Below B W w) (hB : B ≤ w.heap.size)
    (m cx : Nat) (A2 : Option Addr) (hx : a.eval x = .slice A2 m cx) (src : Src w A2 m cx g) (hk : (k + m) * by_ ≤ 140737488355328) (hk2 : k + m ≤ 140737488355328)
    (hT : ∀ i, i < k + m → T i = if i < k then f i else g (i - k))
    (h : ∀ A' c' w', Own w' B e A' (k + m) c' T → Below B W w' → B ≤ w'.heap.size → w.grownBy w' (Value.slice A k c).ownBlock → ((Value.slice A' (k + m) c').ownBlock = (Value.slice A k c).ownBlock ∨ (Value.slice A' (k + m) c').ownBlock = some w.heap.size) → wpList P ops Q rest (a.put o.dst (.slice A' (k + m) c')) w') :
    wpList P ops Q (o :: rest) a w := by
  refine wpList_step fun K hK => ?_
  rw [if_pos hw]
  rcases src with ⟨rfl, rfl, rfl⟩ | ⟨ad, rfl, hy⟩
  · obtain ⟨i0, hi, _⟩ := info_parts hinfo
    have hrun := run_append_owned_none (P := P) (w := w) B t o.type e i0 1 ht hi (.slice A k c) k (byteCells f k) own
    unfold Oper.wp
    simp [execOp, ho, resolve, invoke, builtin, hs, hx, hrun, Result.andThen]
    exact hK _ _ (h A c w (Own.congr own fun i hi => by rw [hT i (by omega), if_pos (by omega)]) bel hB (World.grownBy.refl _ _) (.inl rfl))
  · exact wp_cat s x t e z by_ ht hinfo hz ho hs own bel hB ad m cx hx (byteCells g m) (byteCells_length _ _) hy (by
      intro u hu
      simp [byteCells] at hu
      obtain ⟨i, _, rfl⟩ := hu
      rfl) hk hk2 fun A' c' w' h1 h2 h3 h4 h5 => hK _ _ (h A' c' w' (by
      rw [byteCells_append, byteCells_congr (g := T) (fun i hi => (hT i hi).symm)] at h1
      exact h1) h2 h3 h4 h5)
end Inner
namespace InnerSums
open Go.ChangeShapes Go.WideShapes Go.ChangeAt Go.RowKit
open Num Mem Words Chacha Aead Poly Quiet Inner

set_option maxRecDepth 100000 in
set_option maxHeartbeats 4000000 in
theorem walk (A1 : Option Addr) (n c1 : Nat) (z1 : List Int) (A2 : Option Addr) (m c2 : Nat) (z2 : List Int) (w : World) (r1 : IsRow .u8 w A1 n c1 z1) (r2 : IsRow .u8 w A2 m c2 z2) :
    Calls Try.prog 7 #[.slice A1 n c1, .slice A2 m c2] w fun e w' => e = .returned (.bool true) ∧ Below w.heap.size w w' := by
  obtain ⟨f, hf, hA1, hn1, hm1, hz1⟩ := row_rd r1
  obtain ⟨g, hg, hA2, hn2, hm2, hz2⟩ := row_rd r2
  clear r1 r2
  have R1 := Lib.hid hA1
  have R2 := Lib.hid hA2
  have HF := Lib.hid hf
  have HG := Lib.hid hg
  have S1 := Lib.hid (fun X (hb : Below w.heap.size w X) => src_of (hA1.below hb (Nat.le_refl _)) hz1)
  have S2 := Lib.hid (fun X (hb : Below w.heap.size w X) => src_of (hA2.below hb (Nat.le_refl _)) hz2)
  clear hA1 hA2 hf hg hz1 hz2
  by_cases hn : 1000 < n ∨ 1000 < m ∨ n % 2 = 1
  · by_cases k1 : 1000 < n
    · go_enter Try.func7, Try.ntmps7
      go_wp2_with fail
      refine (alive_any _).mono ?_
      rintro e w1 ⟨rfl, hb⟩
      go_wp2_with fail
      go_ret
      exact ⟨rfl, hb⟩
    by_cases k2 : 1000 < m
    · go_enter Try.func7, Try.ntmps7
      go_wp2_with fail
      refine (alive_any _).mono ?_
      rintro e w1 ⟨rfl, hb⟩
      go_wp2_with fail
      go_ret
      exact ⟨rfl, hb⟩
    have k3 : (n : Int) % 2 = 1 := by omega
    go_enter Try.func7, Try.ntmps7
    go_wp2_with fail
    refine (alive_any _).mono ?_
    rintro e w1 ⟨rfl, hb⟩
    go_wp2_with fail
    go_ret
    exact ⟨rfl, hb⟩
  have k1 : n ≤ 1000 := by omega
  have k2 : m ≤ 1000 := by omega
  have k3 : n % 2 = 0 := by omega
  have k4 : (n : Int) % 2 = 0 := by omega
  have HK3 := Lib.hid k3
  clear hn k3
  go_enter Try.func7, Try.ntmps7
  go_wp2_with fail
  refine (sum_any A1 n c1 f HF.out (by omega) _ R1.out).mono ?_
  rintro e w1 ⟨rfl, rfl⟩
  go_wp2_with fail
  refine (sum_any A2 m c2 g HG.out (by omega) _ R2.out).mono ?_
  rintro e w1 ⟨rfl, rfl⟩
  have hx := canon_le (sumS f n)
  have hy := canon_le (sumS g m)
  obtain ⟨x, hx2⟩ : ∃ x, canon (sumS f n) = x := ⟨_, rfl⟩
  obtain ⟨y, hy2⟩ : ∃ y, canon (sumS g m) = y := ⟨_, rfl⟩
  rw [hx2] at hx
  rw [hy2] at hy
  rw [hx2, hy2]
  have HB := Lib.hid (show canon (sumS (joinF f n g) (n + m)) = canon (x + y) from by rw [sum_both f g n m HK3.out, hx2, hy2])
  have HB2 := Lib.hid (show m % 2 = 0 → canon (sumS (joinF g m f) (m + n)) = canon (x + y) from fun hm => by rw [sum_both g f m n hm, hx2, hy2, Nat.add_comm])
  have HPR := Lib.hid (show canon (sumS (pairF x y) 4) = canon (x + y) from by rw [sum_pair])
  have hz := canon_le (x + y)
  clear hx2 hy2
  obtain ⟨z, hz2⟩ : ∃ z, canon (x + y) = z := ⟨_, rfl⟩
  rw [hz2] at HB HB2 HPR hz
  clear hz2
  have PO := Lib.hid (own_none w w.heap.size (fun _ => 0) (Nat.le_refl _))
  have PB := Lib.hid (below_alloc (Below.refl w.heap.size w) (.cells #[] 5))
  have PS := Lib.hid (show w.heap.size ≤ (w.alloc (.cells #[] 5)).heap.size from PB.out.size)
  go_wp2_with (first | (refine wpList_catFrom (T := f) rfl (.tmp 28) (.tmp 29) 22 5 (.int .u8 0) 1 rfl byte_info rfl rfl rfl PO.out PB.out PS.out n c1 A1 rfl (S1.out _ PB.out) (by omega) (by omega) (fun i hi => by rw [if_neg (by omega), Nat.sub_zero]) ?_; intro A6 c6 w6 o6 hb6 hs6 _ _; rw [Nat.zero_add] at o6) | (refine wpList_catFrom (T := joinF f n g) rfl (.tmp 30) (.tmp 31) 22 5 (.int .u8 0) 1 rfl byte_info rfl rfl rfl o6 hb6 hs6 m c2 A2 rfl (S2.out _ hb6) (by omega) (by omega) (fun _ _ => rfl) ?_; intro A7 c7 w7 o7 hb7 hs7 _ _))
  refine (sum_any A7 (n + m) c7 (joinF f n g) (joinF_lt HF.out HG.out n) (by omega) _ o7.rd).mono ?_
  rintro e w8 ⟨rfl, rfl⟩
  rw [HB.out]
  clear PO PB PS o6 hb6 hs6 o7
  have HB7 := Lib.hid hb7
  clear hb7
  have hw1 : IntKind.u8.wrap ((x : Int) / 256) = ((x / 256 : Nat) : Int) := by rw [IntKind.wrap_u8]; omega
  have hw2 : IntKind.u8.wrap (x : Int) = ((x % 256 : Nat) : Int) := by rw [IntKind.wrap_u8]; omega
  have hw3 : IntKind.u8.wrap ((y : Int) / 256) = ((y / 256 : Nat) : Int) := by rw [IntKind.wrap_u8]; omega
  have hw4 : IntKind.u8.wrap (y : Int) = ((y % 256 : Nat) : Int) := by rw [IntKind.wrap_u8]; omega
  go_upto_region 5 with fail
  go_wp2_with fail
  have p4 : ∀ i, pairF x y i < 256 := fun i => by unfold pairF; (repeat' split) <;> omega
  refine (sum_any (some ⟨w7.heap.size, 0, none⟩) 4 4 (pairF x y) p4 (by omega) _ (Rd.of_new rfl (pair_cells x y))).mono ?_
  rintro e w9 ⟨rfl, rfl⟩
  rw [HPR.out]
  have HB9 := Lib.hid (below_alloc HB7.out (.cells #[.int .u8 ((x : Int) / 256), .int .u8 ((x : Int) % 256), .int .u8 ((y : Int) / 256), .int .u8 ((y : Int) % 256)] 5))
  clear hw1 hw2 hw3 hw4 p4 HB7
  go_upto_region 6 with fail
  refine cut_world (fun X => Below w.heap.size w X) HB9.out ?_
  clear HB9
  rintro W hb
  have HBW := Lib.hid hb
  have hle := hb.size
  clear hb
  by_cases k5 : m % 2 = 0
  · have k6 : (m : Int) % 2 = 0 := by omega
    have HB3 := Lib.hid (HB2.out k5)
    clear k5 HB2
    have PO := Lib.hid (own_none W w.heap.size (fun _ => 0) hle)
    have PB := Lib.hid (below_alloc HBW.out (.cells #[] 5))
    have PS := Lib.hid (show w.heap.size ≤ (W.alloc (.cells #[] 5)).heap.size from PB.out.size)
    go_wp2_with (first | (refine wpList_catFrom_if (T := g) (by rfl) (.tmp 51) (.tmp 52) 22 5 (.int .u8 0) 1 rfl byte_info rfl rfl rfl PO.out PB.out PS.out m c2 A2 rfl (S2.out _ PB.out) (by omega) (by omega) (fun i hi => by rw [if_neg (by omega), Nat.sub_zero]) ?_; intro A6 c6 w6 o6 hb6 hs6 _ _; rw [Nat.zero_add] at o6) | (refine wpList_catFrom_if (T := joinF g m f) (by rfl) (.tmp 53) (.tmp 54) 22 5 (.int .u8 0) 1 rfl byte_info rfl rfl rfl o6 hb6 hs6 n c1 A1 rfl (S1.out _ hb6) (by omega) (by omega) (fun _ _ => rfl) ?_; intro A7 c7 w11 o7 hb7 hs7 _ _))
    refine (sum_any A7 (m + n) c7 (joinF g m f) (joinF_lt HG.out HF.out m) (by omega) _ o7.rd).mono ?_
    rintro e w8 ⟨rfl, rfl⟩
    rw [HB3.out]
    clear PO PB PS o6 hb6 hs6 o7
    have HB7 := Lib.hid hb7
    clear hb7
    go_wp2_with fail
    refine (alive_any _).mono ?_
    rintro e w12 ⟨rfl, hb⟩
    have HB8 := Lib.hid (below_trans HB7.out hb)
    clear hb HB7
    go_wp2_with fail
    go_ret
    exact ⟨rfl, HB8.out⟩
  · have k6 : (m : Int) % 2 = 1 := by omega
    go_wp2_with fail
    refine (alive_any _).mono ?_
    rintro e w12 ⟨rfl, hb⟩
    have HB8 := Lib.hid (below_trans HBW.out hb)
    clear hb HBW
    go_wp2_with fail
    go_ret
    exact ⟨rfl, HB8.out⟩

end InnerSums
end Go.Proofs.Ytiemcfgjpcnloaa
