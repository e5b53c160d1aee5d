/- The document's own Key. -/
import Derived.Test.YtkigkoeanhepkaaTextRefReadKey
namespace Go.Proofs.Ytkigkoeanhepkaa
namespace Text
open Go.ChangeShapes Go.WideShapes Go.ChangeAt Go.RowKit
open Num Mem Words Chacha Aead Quiet

/-- sign i of a key's word, ahead of the = -/
def kB (f : Nat → Nat) (i : Nat) : Nat := sgn (be (wide f) (3 * (i / 4)) 3 / 2 ^ (18 - 6 * (i % 4)) % 64)

theorem group_be (u : Nat → Nat) (p : Nat) : be u p 3 = u p * 65536 + u (p + 1) * 256 + u (p + 2) := by
  simp [be]
  omega
theorem four_cells (f : Nat → Nat) (k p q x0 x1 x2 a b c d : Nat) (hp : p = 3 * k) (hq : q = 4 * k) (hx : wide f p = x0 ∧ wide f (p + 1) = x1 ∧ wide f (p + 2) = x2) (h0 : x0 < 256) (h1 : x1 < 256) (h2 : x2 < 256)
    (hv : a = x0 / 4 ∧ b = x0 % 4 * 16 + x1 / 16 ∧ c = x1 % 16 * 4 + x2 / 64 ∧ d = x2 % 64) :
    #[Value.int .u8 ((sgn a : Nat) : Int), .int .u8 ((sgn b : Nat) : Int), .int .u8 ((sgn c : Nat) : Int), .int .u8 ((sgn d : Nat) : Int)] = (byteCells (fun j => kB f (q + j)) 4).toArray := by
  obtain ⟨rfl, rfl, rfl⟩ := hx
  obtain ⟨rfl, rfl, rfl, rfl⟩ := hv
  rw [byteCells_lit4]
  have e : ∀ j, j < 4 → kB f (q + j) = sgn ((wide f p * 65536 + wide f (p + 1) * 256 + wide f (p + 2)) / 2 ^ (18 - 6 * j) % 64) := by
    intro j hj
    unfold kB
    rw [show (q + j) / 4 = k by omega, show (q + j) % 4 = j by omega, ← hp, group_be]
  rw [e 0 (by omega), e 1 (by omega), e 2 (by omega), e 3 (by omega)]
  generalize wide f p = x0 at *
  generalize wide f (p + 1) = x1 at *
  generalize wide f (p + 2) = x2 at *
  rw [show (x0 * 65536 + x1 * 256 + x2) / 2 ^ (18 - 6 * 0) % 64 = x0 / 4 by omega, show (x0 * 65536 + x1 * 256 + x2) / 2 ^ (18 - 6 * 1) % 64 = x0 % 4 * 16 + x1 / 16 by omega, show (x0 * 65536 + x1 * 256 + x2) / 2 ^ (18 - 6 * 2) % 64 = x1 % 16 * 4 + x2 / 64 by omega, show (x0 * 65536 + x1 * 256 + x2) / 2 ^ (18 - 6 * 3) % 64 = x2 % 64 by omega]

set_option maxRecDepth 100000 in
set_option maxHeartbeats 4000000 in
theorem refKey_any (b off cc : Nat) (f : Nat → Nat) (hf : ∀ i, f i < 256) (w : World) (h : ∀ i, i < 32 → w.cell? ⟨b, off + i, none⟩ = some (.int .u8 (f i : Nat))) (hb : b < w.heap.size) :
    Calls Try.prog 10 #[.slice (some ⟨b, off, none⟩) 32 cc] w fun e w' => e = .returned (.string (strOf (kwB f) 44)) ∧ Below w.heap.size w w' := by
  have HS0 := Lib.hid h
  have SG := Lib.hid sign_any
  have HF := Lib.hid hf
  have HBL0 := Lib.hid hb
  clear h hb hf
  go_enter Try.func10, Try.ntmps10
  have HB1 := Lib.hid (below_alloc (Below.refl w.heap.size w) (.cells #[] 5))
  have O1 := Lib.hid (own_new (w := w) (B := w.heap.size) (t := 5) (n := 0) (cs := #[]) (f := wide f) (Nat.le_refl _) rfl (by decide))
  have HS1 := Lib.hid (show Src (w.alloc (.cells #[] 5)) (some ⟨b, off, none⟩) 32 cc f from .inr ⟨_, rfl, rd_src fun i hi => by
    rw [(below_alloc (Below.refl w.heap.size w) (.cells #[] 5)).cell (p := ⟨b, off + i, none⟩) HBL0.out]
    exact HS0.out i hi⟩)
  have HT1 := Lib.hid (show ∀ i, i < 0 + 32 → wide f i = if i < 0 then wide f i else f (i - 0) from fun i hi => by
    rw [if_neg (by omega), Nat.sub_zero]
    unfold wide
    rw [if_pos (by omega)])
  have HT2 := Lib.hid (show ∀ i, i < 32 + 1 → wide f i = if i < 32 then wide f i else (fun _ => 0) (i - 32) from fun i hi => by
    by_cases h : i < 32
    · rw [if_pos h]
    · rw [if_neg h]
      unfold wide
      rw [if_neg h])
  go_upto_region 2 with (first
    | (at_builtin; refine wpList_catFrom (T := wide f) rfl (.tmp 6) (.tmp 7) 28 5 (.int .u8 0) 1 rfl byte_info rfl rfl rfl O1.out HB1.out (by simp) 32 cc (some ⟨b, off, none⟩) rfl HS1.out (by omega) (by omega) HT1.out ?_; intro A1 c1 w1 o1 hb1 hs1 _ _; have O2 := Lib.hid o1; have HB2 := Lib.hid hb1; clear o1 hb1)
    | (at_builtin; refine wpList_push (T := wide f) (g := fun _ => 0) rfl _ _ rfl rfl rfl rfl O2.out HB2.out hs1 (by omega) HT2.out ?_; intro A2 c2 w2 o2 hb2 hs2; have O3 := Lib.hid o2; have HB3 := Lib.hid hb2; clear o2 hb2))
  obtain ⟨g, hgA, hgl, hgc⟩ : ∃ g, A2 = some ⟨g, 0, none⟩ ∧ g < w2.heap.size ∧ ∀ i, i < 33 → w2.cell? ⟨g, i, none⟩ = some (.int .u8 (wide f i : Nat)) := by
    rcases own_at O3.out with h0 | ⟨g, rfl, _⟩
    · subst h0
      rcases O3.out.rd with h | ⟨b, off, e, _⟩
      · omega
      · cases e
    · rcases O3.out.rd with h | ⟨b, off, e, h1, h2⟩
      · omega
      · injection e with e
        injection e with e1 e2
        subst e1
        subst e2
        exact ⟨_, rfl, h1, fun i hi => by have := h2 i hi; rwa [Nat.zero_add] at this⟩
  subst hgA
  have HGC := Lib.hid hgc
  have HGL := Lib.hid hgl
  have HWL := Lib.hid (show ∀ i, wide f i < 256 from wide_lt HF.out)
  obtain ⟨u, hu⟩ : ∃ u, wide f = u := ⟨_, rfl⟩
  have HU := Lib.hid hu
  rw [hu] at HGC HWL
  have HBW := Lib.hid HB3.out
  obtain ⟨H, hH⟩ : ∃ H, w2.heap.size = H := ⟨_, rfl⟩
  have HH := Lib.hid hH
  clear hgc hu hH O3 O2 O1 HB1 HB2 HB3 HS1 HT1 HT2 HS0 hs1 hs2
  have HBS := Lib.hid HBW.out.size
  go_wp2_with fail
  go_loopw [4, 5] (fun o i wr => ∃ (k p q : Nat) (A : Option Addr) (c : Nat), k ≤ 11 ∧ p = 3 * k ∧ q = 4 * k ∧ i = .int .i64 p ∧ o = .slice A q c ∧ Own wr H 5 A q c (kB f) ∧ Below H w2 wr ∧ H ≤ wr.heap.size)
    (fun _ i _ => 33 - (intOf i).toNat)
  case atStart => exact ⟨0, 0, 0, none, 0, Nat.zero_le _, rfl, rfl, rfl, rfl, Own.nil _ _ _ _, Below.refl _ _, by rw [HH.out]; exact Nat.le_refl _⟩
  case round =>
    obtain ⟨k, p, q, A, c0, hk, hp, hq, rfl, rfl, ho, hbl, hsz⟩ := hrel
    have HO := Lib.hid ho
    have HBL := Lib.hid hbl
    have HP := Lib.hid hp
    have HQ := Lib.hid hq
    have HSZ := Lib.hid hsz
    clear ho hbl
    by_cases hlt : k < 11
    · have hT1 : (decide ((p : Int) < 33)) = true := decide_eq_true (by omega)
      have ld : ∀ j, j < 3 → ∀ x, (Below H w2 x ∧ H ≤ x.heap.size) → x.cell? ⟨g, p + j, none⟩ = some (.int .u8 (u (p + j) : Nat)) := by
        intro j hj x hx
        rw [hx.1.cell (p := ⟨g, p + j, none⟩) (show g < H by have := HGL.out; have := HH.out; omega)]
        exact HGC.out _ (by omega)
      have C0 := Lib.hid (ld 0 (by omega))
      have C1 := Lib.hid (ld 1 (by omega))
      have C2 := Lib.hid (ld 2 (by omega))
      rw [Nat.add_zero] at C0
      obtain ⟨x0, hx0⟩ : ∃ x, u p = x := ⟨_, rfl⟩
      obtain ⟨x1, hx1⟩ : ∃ x, u (p + 1) = x := ⟨_, rfl⟩
      obtain ⟨x2, hx2⟩ : ∃ x, u (p + 2) = x := ⟨_, rfl⟩
      have l0 : x0 < 256 := by rw [← hx0]; exact HWL.out _
      have l1 : x1 < 256 := by rw [← hx1]; exact HWL.out _
      have l2 : x2 < 256 := by rw [← hx2]; exact HWL.out _
      rw [hx0] at C0
      rw [hx1] at C1
      rw [hx2] at C2
      have HX := Lib.hid (And.intro hx0 (And.intro hx1 hx2))
      clear hx0 hx1 hx2 ld
      obtain ⟨a, ha⟩ : ∃ a, x0 / 4 = a := ⟨_, rfl⟩
      obtain ⟨r, hr⟩ : ∃ r, x0 % 4 = r := ⟨_, rfl⟩
      obtain ⟨r16, hr16⟩ : ∃ r16, r * 16 = r16 := ⟨_, rfl⟩
      obtain ⟨s1, hs1⟩ : ∃ s1, x1 / 16 = s1 := ⟨_, rfl⟩
      obtain ⟨b', hb⟩ : ∃ b', r16 + s1 = b' := ⟨_, rfl⟩
      obtain ⟨r', hr'⟩ : ∃ r', x1 % 16 = r' := ⟨_, rfl⟩
      obtain ⟨r4, hr4⟩ : ∃ r4, r' * 4 = r4 := ⟨_, rfl⟩
      obtain ⟨s2, hs2⟩ : ∃ s2, x2 / 64 = s2 := ⟨_, rfl⟩
      obtain ⟨c', hc⟩ : ∃ c', r4 + s2 = c' := ⟨_, rfl⟩
      obtain ⟨d, hd⟩ : ∃ d, x2 % 64 = d := ⟨_, rfl⟩
      have HA := Lib.hid (show IntKind.u8.wrap ((x0 : Int) / 4) = (a : Int) by rw [IntKind.wrap_u8]; omega)
      have HAL := Lib.hid (show a < 64 by omega)
      have HB1 := Lib.hid (show (x0 : Int).tmod 4 = (r : Int) by rw [Int.tmod_eq_emod_of_nonneg (Int.natCast_nonneg _)]; omega)
      have HB2 := Lib.hid (show IntKind.u8.wrap ((r : Int) * 16) = (r16 : Int) by rw [IntKind.wrap_u8]; omega)
      have HB3 := Lib.hid (show IntKind.u8.wrap ((x1 : Int) / 16) = (s1 : Int) by rw [IntKind.wrap_u8]; omega)
      have HB4 := Lib.hid (show IntKind.u8.wrap ((r16 : Int) + (s1 : Int)) = (b' : Int) by rw [IntKind.wrap_u8]; omega)
      have HBL' := Lib.hid (show b' < 64 by omega)
      have HC1 := Lib.hid (show (x1 : Int).tmod 16 = (r' : Int) by rw [Int.tmod_eq_emod_of_nonneg (Int.natCast_nonneg _)]; omega)
      have HC2 := Lib.hid (show IntKind.u8.wrap ((r' : Int) * 4) = (r4 : Int) by rw [IntKind.wrap_u8]; omega)
      have HC3 := Lib.hid (show IntKind.u8.wrap ((x2 : Int) / 64) = (s2 : Int) by rw [IntKind.wrap_u8]; omega)
      have HC4 := Lib.hid (show IntKind.u8.wrap ((r4 : Int) + (s2 : Int)) = (c' : Int) by rw [IntKind.wrap_u8]; omega)
      have HCL := Lib.hid (show c' < 64 by omega)
      have HD := Lib.hid (show (x2 : Int).tmod 64 = (d : Int) by rw [Int.tmod_eq_emod_of_nonneg (Int.natCast_nonneg _)]; omega)
      have HDL := Lib.hid (show d < 64 by omega)
      have HV := Lib.hid (show a = x0 / 4 ∧ b' = x0 % 4 * 16 + x1 / 16 ∧ c' = x1 % 16 * 4 + x2 / 64 ∧ d = x2 % 64 by omega)
      clear ha hr hr16 hs1 hb hr' hr4 hs2 hc hd
      clear hT1
      have hT1 : (decide ((p : Int) < 33)) = true := decide_eq_true (by omega)
      have b0 : (p : Int) < 33 := by omega
      have b1 : (p : Int) + 1 < 33 := by omega
      have z1 : (0 : Int) ≤ (p : Int) + 1 := by omega
      have z2 : (0 : Int) ≤ (p : Int) + 2 := by omega
      have t2 : ((p : Int) + 2).toNat = p + 2 := by omega
      have b2'' : (p : Int) + 2 < 33 := by omega
      have HW1 := Lib.hid (show IntKind.i64.wrap ((p : Int) + 1) = ((p + 1 : Nat) : Int) by rw [IntKind.wrap_i64]; omega)
      have HW2 := Lib.hid (show IntKind.i64.wrap ((p : Int) + 2) = ((p + 2 : Nat) : Int) by rw [IntKind.wrap_i64]; omega)
      clear hp hq
      go_wp2_with fail
      refine region_drew (fun x => Below H w2 x ∧ H ≤ x.heap.size) (by kernel_rfl) ⟨HBL.out.drew, HSZ.out⟩ ?_
      intro hS
      refine take 0 _ rfl (by kernel_rfl) (by kernel_rfl) (by kernel_rfl) (fun _ _ _ h => h) (by rfl) hS (by intro w _; go_simp; with_reducible rfl) ?_
      try simp only [Act.put, List.setIfInBounds_toArray, List.set_cons_zero, List.set_cons_succ]
      refine take 1 _ rfl (by kernel_rfl) (by kernel_rfl) (by kernel_rfl) (fun _ _ _ h => h) (by rfl) hS (by intro w _; go_simp; with_reducible rfl) ?_
      try simp only [Act.put, List.setIfInBounds_toArray, List.set_cons_zero, List.set_cons_succ]
      refine take 2 _ rfl (by kernel_rfl) (by kernel_rfl) (by kernel_rfl) (fun _ _ _ h => h) (by rfl) hS (by intro w _; go_simp; with_reducible rfl) ?_
      try simp only [Act.put, List.setIfInBounds_toArray, List.set_cons_zero, List.set_cons_succ]
      refine take 3 _ rfl (by kernel_rfl) (by kernel_rfl) (by kernel_rfl) (fun _ _ _ h => h) (by rfl) hS (by intro w _; go_simp; with_reducible rfl) ?_
      try simp only [Act.put, List.setIfInBounds_toArray, List.set_cons_zero, List.set_cons_succ]
      refine take 4 _ rfl (by kernel_rfl) (by kernel_rfl) (by kernel_rfl) (fun _ _ _ h => h) (by rfl) hS (by intro w hw; have hcl := C0.out _ hw; go_simp; with_reducible rfl) ?_
      try simp only [Act.put, List.setIfInBounds_toArray, List.set_cons_zero, List.set_cons_succ]
      refine take 5 _ rfl (by kernel_rfl) (by kernel_rfl) (by kernel_rfl) (fun _ _ _ h => h) (by rfl) hS (by intro w _; go_simp; with_reducible rfl) ?_
      try simp only [Act.put, List.setIfInBounds_toArray, List.set_cons_zero, List.set_cons_succ]
      rw [HA.out]
      refine take_call 6 (.int .u8 (sgn a : Nat)) 22 (#[.int .u8 (a : Nat)]) rfl (by kernel_rfl) (by kernel_rfl) (by kernel_rfl) (fun _ _ _ h => h) (by rfl) hS (by intro w; go_simp; try with_reducible rfl) (fun w hw => (SG.out a HAL.out w).mono fun e w' h => ⟨h.1, h.2.symm⟩) ?_
      try simp only [Act.put, List.setIfInBounds_toArray, List.set_cons_zero, List.set_cons_succ]
      refine take 7 _ rfl (by kernel_rfl) (by kernel_rfl) (by kernel_rfl) (fun _ _ _ h => h) (by rfl) hS (by intro w _; go_simp; with_reducible rfl) ?_
      try simp only [Act.put, List.setIfInBounds_toArray, List.set_cons_zero, List.set_cons_succ]
      refine take 8 _ rfl (by kernel_rfl) (by kernel_rfl) (by kernel_rfl) (fun _ _ _ h => h) (by rfl) hS (by intro w _; go_simp; with_reducible rfl) ?_
      try simp only [Act.put, List.setIfInBounds_toArray, List.set_cons_zero, List.set_cons_succ]
      refine take 9 _ rfl (by kernel_rfl) (by kernel_rfl) (by kernel_rfl) (fun _ _ _ h => h) (by rfl) hS (by intro w _; go_simp; with_reducible rfl) ?_
      try simp only [Act.put, List.setIfInBounds_toArray, List.set_cons_zero, List.set_cons_succ]
      refine take 10 _ rfl (by kernel_rfl) (by kernel_rfl) (by kernel_rfl) (fun _ _ _ h => h) (by rfl) hS (by intro w hw; have hcl := C0.out _ hw; go_simp; with_reducible rfl) ?_
      try simp only [Act.put, List.setIfInBounds_toArray, List.set_cons_zero, List.set_cons_succ]
      refine take 11 _ rfl (by kernel_rfl) (by kernel_rfl) (by kernel_rfl) (fun _ _ _ h => h) (by rfl) hS (by intro w _; go_simp; with_reducible rfl) ?_
      try simp only [Act.put, List.setIfInBounds_toArray, List.set_cons_zero, List.set_cons_succ]
      rw [HB1.out]
      refine take 12 _ rfl (by kernel_rfl) (by kernel_rfl) (by kernel_rfl) (fun _ _ _ h => h) (by rfl) hS (by intro w _; go_simp; with_reducible rfl) ?_
      try simp only [Act.put, List.setIfInBounds_toArray, List.set_cons_zero, List.set_cons_succ]
      rw [HB2.out]
      refine take 13 _ rfl (by kernel_rfl) (by kernel_rfl) (by kernel_rfl) (fun _ _ _ h => h) (by rfl) hS (by intro w _; go_simp; with_reducible rfl) ?_
      try simp only [Act.put, List.setIfInBounds_toArray, List.set_cons_zero, List.set_cons_succ]
      refine take 14 _ rfl (by kernel_rfl) (by kernel_rfl) (by kernel_rfl) (fun _ _ _ h => h) (by rfl) hS (by intro w _; go_simp; with_reducible rfl) ?_
      try simp only [Act.put, List.setIfInBounds_toArray, List.set_cons_zero, List.set_cons_succ]
      refine take 15 _ rfl (by kernel_rfl) (by kernel_rfl) (by kernel_rfl) (fun _ _ _ h => h) (by rfl) hS (by intro w _; go_simp; with_reducible rfl) ?_
      try simp only [Act.put, List.setIfInBounds_toArray, List.set_cons_zero, List.set_cons_succ]
      rw [HW1.out]
      refine take 16 _ rfl (by kernel_rfl) (by kernel_rfl) (by kernel_rfl) (fun _ _ _ h => h) (by rfl) hS (by intro w _; go_simp; with_reducible rfl) ?_
      try simp only [Act.put, List.setIfInBounds_toArray, List.set_cons_zero, List.set_cons_succ]
      refine take 17 _ rfl (by kernel_rfl) (by kernel_rfl) (by kernel_rfl) (fun _ _ _ h => h) (by rfl) hS (by intro w hw; have hcl := C1.out _ hw; go_simp; with_reducible rfl) ?_
      try simp only [Act.put, List.setIfInBounds_toArray, List.set_cons_zero, List.set_cons_succ]
      refine take 18 _ rfl (by kernel_rfl) (by kernel_rfl) (by kernel_rfl) (fun _ _ _ h => h) (by rfl) hS (by intro w _; go_simp; with_reducible rfl) ?_
      try simp only [Act.put, List.setIfInBounds_toArray, List.set_cons_zero, List.set_cons_succ]
      rw [HB3.out]
      refine take 19 _ rfl (by kernel_rfl) (by kernel_rfl) (by kernel_rfl) (fun _ _ _ h => h) (by rfl) hS (by intro w _; go_simp; with_reducible rfl) ?_
      try simp only [Act.put, List.setIfInBounds_toArray, List.set_cons_zero, List.set_cons_succ]
      rw [HB4.out]
      refine take_call 20 (.int .u8 (sgn b' : Nat)) 22 (#[.int .u8 (b' : Nat)]) rfl (by kernel_rfl) (by kernel_rfl) (by kernel_rfl) (fun _ _ _ h => h) (by rfl) hS (by intro w; go_simp; try with_reducible rfl) (fun w hw => (SG.out b' HBL'.out w).mono fun e w' h => ⟨h.1, h.2.symm⟩) ?_
      try simp only [Act.put, List.setIfInBounds_toArray, List.set_cons_zero, List.set_cons_succ]
      refine take 21 _ rfl (by kernel_rfl) (by kernel_rfl) (by kernel_rfl) (fun _ _ _ h => h) (by rfl) hS (by intro w _; go_simp; with_reducible rfl) ?_
      try simp only [Act.put, List.setIfInBounds_toArray, List.set_cons_zero, List.set_cons_succ]
      refine take 22 _ rfl (by kernel_rfl) (by kernel_rfl) (by kernel_rfl) (fun _ _ _ h => h) (by rfl) hS (by intro w _; go_simp; with_reducible rfl) ?_
      try simp only [Act.put, List.setIfInBounds_toArray, List.set_cons_zero, List.set_cons_succ]
      refine take 23 _ rfl (by kernel_rfl) (by kernel_rfl) (by kernel_rfl) (fun _ _ _ h => h) (by rfl) hS (by intro w _; go_simp; with_reducible rfl) ?_
      try simp only [Act.put, List.setIfInBounds_toArray, List.set_cons_zero, List.set_cons_succ]
      rw [HW1.out]
      refine take 24 _ rfl (by kernel_rfl) (by kernel_rfl) (by kernel_rfl) (fun _ _ _ h => h) (by rfl) hS (by intro w _; go_simp; with_reducible rfl) ?_
      try simp only [Act.put, List.setIfInBounds_toArray, List.set_cons_zero, List.set_cons_succ]
      refine take 25 _ rfl (by kernel_rfl) (by kernel_rfl) (by kernel_rfl) (fun _ _ _ h => h) (by rfl) hS (by intro w hw; have hcl := C1.out _ hw; go_simp; with_reducible rfl) ?_
      try simp only [Act.put, List.setIfInBounds_toArray, List.set_cons_zero, List.set_cons_succ]
      refine take 26 _ rfl (by kernel_rfl) (by kernel_rfl) (by kernel_rfl) (fun _ _ _ h => h) (by rfl) hS (by intro w _; go_simp; with_reducible rfl) ?_
      try simp only [Act.put, List.setIfInBounds_toArray, List.set_cons_zero, List.set_cons_succ]
      rw [HC1.out]
      refine take 27 _ rfl (by kernel_rfl) (by kernel_rfl) (by kernel_rfl) (fun _ _ _ h => h) (by rfl) hS (by intro w _; go_simp; with_reducible rfl) ?_
      try simp only [Act.put, List.setIfInBounds_toArray, List.set_cons_zero, List.set_cons_succ]
      rw [HC2.out]
      refine take 28 _ rfl (by kernel_rfl) (by kernel_rfl) (by kernel_rfl) (fun _ _ _ h => h) (by rfl) hS (by intro w _; go_simp; with_reducible rfl) ?_
      try simp only [Act.put, List.setIfInBounds_toArray, List.set_cons_zero, List.set_cons_succ]
      refine take 29 _ rfl (by kernel_rfl) (by kernel_rfl) (by kernel_rfl) (fun _ _ _ h => h) (by rfl) hS (by intro w _; go_simp; with_reducible rfl) ?_
      try simp only [Act.put, List.setIfInBounds_toArray, List.set_cons_zero, List.set_cons_succ]
      refine take 30 _ rfl (by kernel_rfl) (by kernel_rfl) (by kernel_rfl) (fun _ _ _ h => h) (by rfl) hS (by intro w _; go_simp; with_reducible rfl) ?_
      try simp only [Act.put, List.setIfInBounds_toArray, List.set_cons_zero, List.set_cons_succ]
      rw [HW2.out]
      refine take 31 _ rfl (by kernel_rfl) (by kernel_rfl) (by kernel_rfl) (fun _ _ _ h => h) (by rfl) hS (by intro w _; go_simp; with_reducible rfl) ?_
      try simp only [Act.put, List.setIfInBounds_toArray, List.set_cons_zero, List.set_cons_succ]
      refine take 32 _ rfl (by kernel_rfl) (by kernel_rfl) (by kernel_rfl) (fun _ _ _ h => h) (by rfl) hS (by intro w hw; have hcl := C2.out _ hw; go_simp; with_reducible rfl) ?_
      try simp only [Act.put, List.setIfInBounds_toArray, List.set_cons_zero, List.set_cons_succ]
      refine take 33 _ rfl (by kernel_rfl) (by kernel_rfl) (by kernel_rfl) (fun _ _ _ h => h) (by rfl) hS (by intro w _; go_simp; with_reducible rfl) ?_
      try simp only [Act.put, List.setIfInBounds_toArray, List.set_cons_zero, List.set_cons_succ]
      rw [HC3.out]
      refine take 34 _ rfl (by kernel_rfl) (by kernel_rfl) (by kernel_rfl) (fun _ _ _ h => h) (by rfl) hS (by intro w _; go_simp; with_reducible rfl) ?_
      try simp only [Act.put, List.setIfInBounds_toArray, List.set_cons_zero, List.set_cons_succ]
      rw [HC4.out]
      refine take_call 35 (.int .u8 (sgn c' : Nat)) 22 (#[.int .u8 (c' : Nat)]) rfl (by kernel_rfl) (by kernel_rfl) (by kernel_rfl) (fun _ _ _ h => h) (by rfl) hS (by intro w; go_simp; try with_reducible rfl) (fun w hw => (SG.out c' HCL.out w).mono fun e w' h => ⟨h.1, h.2.symm⟩) ?_
      try simp only [Act.put, List.setIfInBounds_toArray, List.set_cons_zero, List.set_cons_succ]
      refine take 36 _ rfl (by kernel_rfl) (by kernel_rfl) (by kernel_rfl) (fun _ _ _ h => h) (by rfl) hS (by intro w _; go_simp; with_reducible rfl) ?_
      try simp only [Act.put, List.setIfInBounds_toArray, List.set_cons_zero, List.set_cons_succ]
      refine take 37 _ rfl (by kernel_rfl) (by kernel_rfl) (by kernel_rfl) (fun _ _ _ h => h) (by rfl) hS (by intro w _; go_simp; with_reducible rfl) ?_
      try simp only [Act.put, List.setIfInBounds_toArray, List.set_cons_zero, List.set_cons_succ]
      refine take 38 _ rfl (by kernel_rfl) (by kernel_rfl) (by kernel_rfl) (fun _ _ _ h => h) (by rfl) hS (by intro w _; go_simp; with_reducible rfl) ?_
      try simp only [Act.put, List.setIfInBounds_toArray, List.set_cons_zero, List.set_cons_succ]
      rw [HW2.out]
      refine take 39 _ rfl (by kernel_rfl) (by kernel_rfl) (by kernel_rfl) (fun _ _ _ h => h) (by rfl) hS (by intro w _; go_simp; with_reducible rfl) ?_
      try simp only [Act.put, List.setIfInBounds_toArray, List.set_cons_zero, List.set_cons_succ]
      refine take 40 _ rfl (by kernel_rfl) (by kernel_rfl) (by kernel_rfl) (fun _ _ _ h => h) (by rfl) hS (by intro w hw; have hcl := C2.out _ hw; go_simp; with_reducible rfl) ?_
      try simp only [Act.put, List.setIfInBounds_toArray, List.set_cons_zero, List.set_cons_succ]
      refine take 41 _ rfl (by kernel_rfl) (by kernel_rfl) (by kernel_rfl) (fun _ _ _ h => h) (by rfl) hS (by intro w _; go_simp; with_reducible rfl) ?_
      try simp only [Act.put, List.setIfInBounds_toArray, List.set_cons_zero, List.set_cons_succ]
      rw [HD.out]
      refine take_call 42 (.int .u8 (sgn d : Nat)) 22 (#[.int .u8 (d : Nat)]) rfl (by kernel_rfl) (by kernel_rfl) (by kernel_rfl) (fun _ _ _ h => h) (by rfl) hS (by intro w; go_simp; try with_reducible rfl) (fun w hw => (SG.out d HDL.out w).mono fun e w' h => ⟨h.1, h.2.symm⟩) ?_
      try simp only [Act.put, List.setIfInBounds_toArray, List.set_cons_zero, List.set_cons_succ]

      have H4 := Lib.hid (four_cells f k p q x0 x1 x2 a b' c' d HP.out HQ.out (by rw [HU.out]; exact HX.out) l0 l1 l2 HV.out)
      refine alone 43 rfl (by kernel_rfl) (by rfl) ?_
      intro K hK
      go_simp
      have hS2 : Below H w2 (wr.drew.alloc (.cells #[Value.int .u8 ((sgn a : Nat) : Int), .int .u8 ((sgn b' : Nat) : Int), .int .u8 ((sgn c' : Nat) : Int), .int .u8 ((sgn d : Nat) : Int)] 5)) ∧ H ≤ (wr.drew.alloc (.cells #[Value.int .u8 ((sgn a : Nat) : Int), .int .u8 ((sgn b' : Nat) : Int), .int .u8 ((sgn c' : Nat) : Int), .int .u8 ((sgn d : Nat) : Int)] 5)).heap.size := ⟨hS.1.alloc hS.2 _, by have := hS.2; simp at this ⊢; omega⟩
      refine hK.out _ _ hS2 ?_
      clear hK K
      try simp only [Act.put, List.setIfInBounds_toArray, List.set_cons_zero, List.set_cons_succ]
      refine alone 44 rfl (by kernel_rfl) (by rfl) ?_
      intro K hK
      refine wp_cat (.tmp 15) (.tmp 58) 28 5 (.int .u8 0) 1 rfl byte_info rfl rfl rfl (Own.alloc (show Own wr.drew H 5 A q c0 (kB f) from HO.out) _) hS2.1 hS2.2 ⟨wr.heap.size, 0, none⟩ 4 4 rfl (byteCells (fun j => kB f (q + j)) 4) (byteCells_length _ _) (rd_src (fun i hi => by
        have hw : Whole (wr.drew.alloc (.cells #[Value.int .u8 ((sgn a : Nat) : Int), .int .u8 ((sgn b' : Nat) : Int), .int .u8 ((sgn c' : Nat) : Int), .int .u8 ((sgn d : Nat) : Int)] 5)) wr.heap.size 5 (byteCells (fun j => kB f (q + j)) 4).toArray := by
          rw [← H4.out]
          exact Whole.new wr.drew _ _
        exact hw.bytes i hi)) (by
        intro u hu
        simp [byteCells] at hu
        obtain ⟨i, _, rfl⟩ := hu
        rfl) (by have := HQ.out; omega) (by have := HQ.out; omega) ?_
      intro A7 c7 w7 o7 hb7 hs7 _ _
      have o8 : Own w7 H 5 A7 (q + 4) c7 (kB f) := by
        rw [byteCells_append, byteCells_congr (g := kB f) (fun i hi => by
          by_cases h : i < q
          · rw [if_pos h]
          · rw [if_neg h, show q + (i - q) = i by omega])] at o7
        exact o7
      have HO7 := Lib.hid o8
      have HB7 := Lib.hid hb7
      refine hK.out _ _ ⟨hb7, hs7⟩ ?_
      clear hK K o7 hb7 o8
      try simp only [Act.put, List.setIfInBounds_toArray, List.set_cons_zero, List.set_cons_succ]
      have hS := (⟨HB7.out, hs7⟩ : Below H w2 w7 ∧ H ≤ w7.heap.size)
      refine take 45 _ rfl (by kernel_rfl) (by kernel_rfl) (by kernel_rfl) (fun _ _ _ h => h) (by rfl) hS (by intro w _; go_simp; with_reducible rfl) ?_
      try simp only [Act.put, List.setIfInBounds_toArray, List.set_cons_zero, List.set_cons_succ]
      refine region_end (by kernel_rfl) ?_
      clear hS hS2 H4 C0 C1 C2
      have hpl : p < 33 := by have := HP.out; omega
      go_wp2_with fail
      have hq2 : q + 4 = 4 * (k + 1) := by have := HQ.out; omega
      refine ⟨⟨k + 1, p + 3, q + 4, A7, c7, by omega, by have := HP.out; omega, hq2, by simp, rfl, HO7.out, HB7.out, hs7⟩, ?_⟩
      show 33 - ((p : Int) + 3).toNat < 33 - (p : Int).toNat
      have := HP.out
      omega
    · obtain rfl : k = 11 := by omega
      have hT1 : (decide ((p : Int) < 33)) = false := decide_eq_false (by omega)
      obtain rfl : q = 44 := by omega
      obtain ⟨b2, cap, cur, eA, hbH, hcur, hcap⟩ : ∃ b2 cap cur, A = some ⟨b2, 0, none⟩ ∧ H ≤ b2 ∧ Whole wr b2 5 cur ∧ c0 = cap := by
        rcases HO.out.2 with ⟨_, h0⟩ | ⟨b2, cap, cur, e, h1, h2, _⟩
        · omega
        · injection e with e1 e2 e3
          exact ⟨b2, cap, cur, e1, h1, h2, e3⟩
      subst eA
      subst hcap
      have HCU := Lib.hid (show ∀ i, i < 44 → cur[i]? = some (.int .u8 (kB f i : Nat)) from fun i hi => by
        rw [← hcur.cell i, World.ownsRow.cellAt HO.out i (by omega), byteCells_get _ _ _ hi])
      have hcell := (hcur.cell 43).trans (HCU.out 43 (by omega))
      have hfree := hcur.free 43
      have HWC := Lib.hid hcur
      clear hcur hp hq hsz
      go_upto_region 8 with fail
      have hrd : Rd (wr.setCell ⟨b2, 43, none⟩ (.int .u8 61)) (some ⟨b2, 0, none⟩) 44 (kwB f) := by
        have hw := HWC.out.put 43 (.int .u8 61)
        refine .inr ⟨b2, 0, rfl, hw.lt, fun i hi => ?_⟩
        rw [Nat.zero_add, hw.cell, Array.getElem?_setIfInBounds]
        have hs : 43 < cur.size := by
          have := HCU.out 43 (by omega)
          rcases Nat.lt_or_ge 43 cur.size with h | h
          · exact h
          · rw [Array.getElem?_eq_none h] at this
            cases this
        by_cases h : i = 43
        · subst h
          rw [if_pos rfl, if_pos hs]
          rfl
        · rw [if_neg (Ne.symm h), HCU.out i hi]
          unfold kwB
          rw [if_neg h]
          rfl
      have hcv := run_string_of (P := Try.prog) (c := c0) 28 9 5 Try.underlying28 Try.underlying5 Try.underlying9 hrd
      have hbel := Lib.hid (show Below w.heap.size w (wr.setCell ⟨b2, 43, none⟩ (.int .u8 61)) from by
        have h1 := HBW.out
        have h2 := HBL.out
        have h4 := HH.out
        have h5 := HBS.out
        exact (h1.trans (h2.mono (by omega))).setCell (by show w.heap.size ≤ b2; omega) _)
      clear hrd hcell hfree
      go_wp2
      go_ret
      exact ⟨rfl, hbel.out⟩

end Text
end Go.Proofs.Ytkigkoeanhepkaa
