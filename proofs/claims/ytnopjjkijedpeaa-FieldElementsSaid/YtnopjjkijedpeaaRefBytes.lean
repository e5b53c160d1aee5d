/- The document's own answers of layer 5 (package aditref05): Bytes. -/
import Derived.Test.YtnopjjkijedpeaaRefTold
import Derived.Test.YtnopjjkijedpeaaWordsTwo
namespace Go.Proofs.Ytnopjjkijedpeaa
namespace RefF
open Go.ChangeShapes Go.WideShapes Go.ChangeAt Go.RowKit
open Num Mem Words Radix FieldN Chacha Quiet

theorem info_u8 : (Try.prog.info? 5).map (fun i => (i.zero, i.size, i.bytes)) = some (some (.int .u8 0), 1, 1) := by kernel_rfl
theorem Own.drew {w : World} {B : Nat} {t : TypeId} {A : Option Addr} {n c : Nat} {f : Nat → Nat} (h : Own w B t A n c f) : Own w.drew B t A n c f := h
def pairCells (u k : Nat) : List Value := [.int .u8 (byteAt u (2 * k) : Nat), .int .u8 (byteAt u (2 * k + 1) : Nat)]
theorem pair_at (u k : Nat) (w : World) : ∀ j x, (pairCells u k)[j]? = some x → (w.alloc (.cells #[.int .u8 (byteAt u (2 * k) : Nat), .int .u8 (byteAt u (2 * k + 1) : Nat)] 5)).cell? ((⟨w.heap.size, 0, none⟩ : Addr).add j) = some x := by
  intro j x hj
  have h := Whole.new w 5 #[.int .u8 (byteAt u (2 * k) : Nat), .int .u8 (byteAt u (2 * k + 1) : Nat)]
  match j, hj with
  | 0, hj =>
    simp [pairCells] at hj
    subst hj
    exact h.cell 0
  | 1, hj =>
    simp [pairCells] at hj
    subst hj
    exact h.cell 1
theorem pair_one (u k : Nat) : ∀ x ∈ pairCells u k, x.oneCell' = true := by
  intro x hx
  simp [pairCells] at hx
  rcases hx with rfl | rfl <;> rfl
theorem pair_own {w : World} {B u k c : Nat} {A : Option Addr} (h : w.ownsRow B 5 1 (.slice A (2 * k + 2) c) (2 * k + 2) (byteCells (byteAt u) (2 * k) ++ pairCells u k)) : Own w B 5 A (2 * (k + 1)) c (byteAt u) := by
  unfold Own
  rw [show 2 * (k + 1) = 2 * k + 1 + 1 by omega, byteCells_snoc, byteCells_snoc, List.append_assoc]
  exact h

/-- two bytes out of a limb -/
theorem limb_bytes (u k : Nat) : dg 65536 u k % 256 = byteAt u (2 * k) ∧ dg 65536 u k / 256 = byteAt u (2 * k + 1) := by
  unfold dg byteAt
  rw [show (65536 : Nat) = 2 ^ 16 from rfl, ← Nat.pow_mul, show 8 * (2 * k) = 16 * k by omega, show 8 * (2 * k + 1) = 16 * k + 8 by omega, Nat.pow_add, ← Nat.div_div_eq_div_mul]
  generalize u / 2 ^ (16 * k) = q
  omega

set_option maxRecDepth 100000 in
theorem bytes_any (v : Nat) (hv : v < M256) (w : World) :
    Calls Try.prog 14 #[nv v] w fun e w' => ∃ A c, e = .returned (.slice A 32 c) ∧ Own w' w.heap.size 5 A 32 c (byteAt (v % P)) ∧ Below w.heap.size w w' := by
  have HTO := Lib.hid (told_any v hv)
  obtain ⟨u, hu⟩ : ∃ u, u = v % P := ⟨_, rfl⟩
  rw [← hu] at HTO ⊢
  obtain ⟨m, hm⟩ : ∃ m, m = dg 65536 v := ⟨_, rfl⟩
  obtain ⟨L, hL⟩ : ∃ L, L = dg 65536 u := ⟨_, rfl⟩
  have HL := Lib.hid (show ∀ i, L i < 65536 from fun i => by rw [hL]; exact lim_lt u i)
  have HLB := Lib.hid (show ∀ k, L k % 256 = byteAt u (2 * k) ∧ L k / 256 = byteAt u (2 * k + 1) from fun k => by rw [hL]; exact limb_bytes u k)
  rw [nv, nv, ← hm, ← hL] at HTO
  rw [nv, ← hm, icells_lit16 m]
  clear hm hL hu hv
  go_enter Try.func14, Try.ntmps14
  go_upto_region 1 with fail
  rw [← icells_lit16 m]
  refine cut_world (fun W => Whole W w.heap.size 24 (icells m 16).toArray ∧ Below w.heap.size w W) ⟨whole_new _ _ rfl, below_alloc (Below.refl _ _) _⟩ ?_
  rintro W ⟨k1, kb⟩
  have K1 := Lib.hid k1
  have KB := Lib.hid kb
  clear k1 kb
  generalize hB : w.heap.size = B at K1 KB ⊢
  go_wp2_with (refine wpList_load_row rfl 24 (.tmp 1) rfl B rfl 24 (icells m 16).toArray (0, 0) _ K1.out rfl rfl (by rw [icells_size]; kernel_rfl) ?_)
  refine (HTO.out _).mono ?_
  rintro e w1 ⟨rfl, hb⟩
  have R1 := Lib.hid (K1.out.below hb K1.out.lt)
  have RB := Lib.hid (KB.out.trans (hb.mono (by have := K1.out.lt; omega)))
  clear hb K1 KB
  go_upto_region 2 with (refine wpList_store_row rfl 24 (.tmp 1) (.tmp 6) rfl B (icells L 16).toArray rfl rfl 24 _ R1.out (by rw [icells_size]; kernel_rfl) (by rw [icells_size, icells_size]) (icells_one _ _) ?_)
  refine cut_world (fun X => Whole X B 24 (icells L 16).toArray ∧ Below B w X) ⟨setRow_heap _ _ _ _ _ _ R1.out, below_setRow RB.out (Nat.le_refl _) _⟩ ?_
  clear R1 RB
  rintro Y ⟨k1, kb⟩
  have hlt1 := k1.lt
  have K1 := Lib.hid k1
  have KB := Lib.hid kb
  clear k1 kb
  go_wp2_with fail
  go_loopw [3, 4] (fun o i wr => ∃ (k : Nat) (A : Option Addr) (c : Nat), k ≤ 16 ∧ i = .int .i64 k ∧ o = .slice A (2 * k : Nat) c ∧ Own wr (B + 1) 5 A (2 * k) c (byteAt u) ∧ Below (B + 1) Y wr ∧ B + 1 ≤ wr.heap.size) (fun _ i _ => 16 - (intOf i).toNat)
  case atStart => exact ⟨0, none, 0, by omega, rfl, rfl, Own.nil _ _ _ _, Below.refl _ _, hlt1⟩
  case round =>
    obtain ⟨k, A, c, hk, rfl, rfl, ho, hbl, hsz⟩ := hrel
    have HO := Lib.hid ho
    have HLL := Lib.hid hbl
    clear ho hbl
    by_cases hlt : k < 16
    · have i1 : (k : Int) < 16 := by omega
      have l1 := HL.out k
      have HB1 := Lib.hid (show IntKind.u8.wrap (((L k : Nat) : Int).tmod 256) = ((byteAt u (2 * k) : Nat) : Int) by
        rw [← (HLB.out k).1, IntKind.wrap_u8, Int.tmod_eq_emod_of_nonneg (by omega)]
        omega)
      have HB2 := Lib.hid (show IntKind.u8.wrap (IntKind.i64.wrap (((L k : Nat) : Int) / 256)) = ((byteAt u (2 * k + 1) : Nat) : Int) by
        rw [← (HLB.out k).2, IntKind.wrap_i64, IntKind.wrap_u8]
        omega)
      go_wp2_with fail
      refine region_drew (fun X => Below (B + 1) Y X ∧ B + 1 ≤ X.heap.size) rfl ⟨below_drewN HLL.out 1, hsz⟩ ?_
      intro hS
      refine take 0 _ rfl (by kernel_rfl) (by kernel_rfl) (by kernel_rfl) (fun _ _ _ h => h) (by rfl) hS (by intro w _; go_simp; with_reducible rfl) ?_
      try simp only [Act.put, List.setIfInBounds_toArray, List.set_cons_zero, List.set_cons_succ]
      refine take 1 _ rfl (by kernel_rfl) (by kernel_rfl) (by kernel_rfl) (fun _ _ _ h => h) (by rfl) hS (by intro w _; go_simp; with_reducible rfl) ?_
      try simp only [Act.put, List.setIfInBounds_toArray, List.set_cons_zero, List.set_cons_succ]
      refine take 2 _ rfl (by kernel_rfl) (by kernel_rfl) (by kernel_rfl) (fun _ _ _ h => h) (by rfl) hS (by intro w _; go_simp; with_reducible rfl) ?_
      try simp only [Act.put, List.setIfInBounds_toArray, List.set_cons_zero, List.set_cons_succ]
      refine take 3 _ rfl (by kernel_rfl) (by kernel_rfl) (by kernel_rfl) (fun _ _ _ h => h) (by rfl) hS (by intro w hw; have hcl := (K1.out.below hw.1 (by omega)).inum k hlt; go_simp; with_reducible rfl) ?_
      try simp only [Act.put, List.setIfInBounds_toArray, List.set_cons_zero, List.set_cons_succ]
      refine take 4 _ rfl (by kernel_rfl) (by kernel_rfl) (by kernel_rfl) (fun _ _ _ h => h) (by rfl) hS (by intro w _; go_simp; with_reducible rfl) ?_
      try simp only [Act.put, List.setIfInBounds_toArray, List.set_cons_zero, List.set_cons_succ]
      refine take 5 _ rfl (by kernel_rfl) (by kernel_rfl) (by kernel_rfl) (fun _ _ _ h => h) (by rfl) hS (by intro w _; go_simp; with_reducible rfl) ?_
      try simp only [Act.put, List.setIfInBounds_toArray, List.set_cons_zero, List.set_cons_succ]
      rw [HB1.out]
      refine take 6 _ rfl (by kernel_rfl) (by kernel_rfl) (by kernel_rfl) (fun _ _ _ h => h) (by rfl) hS (by intro w _; go_simp; with_reducible rfl) ?_
      try simp only [Act.put, List.setIfInBounds_toArray, List.set_cons_zero, List.set_cons_succ]
      refine take 7 _ rfl (by kernel_rfl) (by kernel_rfl) (by kernel_rfl) (fun _ _ _ h => h) (by rfl) hS (by intro w _; go_simp; with_reducible rfl) ?_
      try simp only [Act.put, List.setIfInBounds_toArray, List.set_cons_zero, List.set_cons_succ]
      refine take 8 _ rfl (by kernel_rfl) (by kernel_rfl) (by kernel_rfl) (fun _ _ _ h => h) (by rfl) hS (by intro w hw; have hcl := (K1.out.below hw.1 (by omega)).inum k hlt; go_simp; with_reducible rfl) ?_
      try simp only [Act.put, List.setIfInBounds_toArray, List.set_cons_zero, List.set_cons_succ]
      refine take 9 _ rfl (by kernel_rfl) (by kernel_rfl) (by kernel_rfl) (fun _ _ _ h => h) (by rfl) hS (by intro w _; go_simp; with_reducible rfl) ?_
      try simp only [Act.put, List.setIfInBounds_toArray, List.set_cons_zero, List.set_cons_succ]
      refine take 10 _ rfl (by kernel_rfl) (by kernel_rfl) (by kernel_rfl) (fun _ _ _ h => h) (by rfl) hS (by intro w _; go_simp; with_reducible rfl) ?_
      try simp only [Act.put, List.setIfInBounds_toArray, List.set_cons_zero, List.set_cons_succ]
      rw [HB2.out]
      refine alone 11 rfl (by kernel_rfl) (by rfl) ?_
      intro K hK
      go_simp
      have hS1 := ops_alloc (o := .cells #[.int .u8 (byteAt u (2 * k) : Nat), .int .u8 (byteAt u (2 * k + 1) : Nat)] 5) hS
      refine hK.out _ _ hS1 ?_
      clear hK K
      try simp only [Act.put, List.setIfInBounds_toArray, List.set_cons_zero, List.set_cons_succ]
      refine alone 12 rfl (by kernel_rfl) (by rfl) ?_
      intro K hK
      refine wp_cat (W := Y) (B := B + 1) (xs := byteCells (byteAt u) (2 * k)) _ _ 26 5 (.int .u8 0) 1 Try.underlying26 info_u8 rfl rfl rfl (World.ownsRow.alloc HO.out.drew _) hS1.1 hS1.2 ⟨wr.heap.size, 0, none⟩ 2 2 rfl (pairCells u k) (by rfl) (pair_at u k wr.drew) (pair_one u k) (by omega) (by omega) ?_
      intro A2 c2' w1 hown1 hbel1 hsz1 _ _
      have HO1 := Lib.hid (pair_own hown1)
      have hS2 : Below (B + 1) Y w1 ∧ B + 1 ≤ w1.heap.size := ⟨hbel1, hsz1⟩
      clear hown1 hbel1 hsz1 hS hS1
      refine hK.out _ _ hS2 ?_
      clear hK K
      have hS := hS2
      clear hS2
      try simp only [Act.put, List.setIfInBounds_toArray, List.set_cons_zero, List.set_cons_succ]
      refine take 13 _ rfl (by kernel_rfl) (by kernel_rfl) (by kernel_rfl) (fun _ _ _ h => h) (by rfl) hS (by intro w _; go_simp; with_reducible rfl) ?_
      try simp only [Act.put, List.setIfInBounds_toArray, List.set_cons_zero, List.set_cons_succ]
      refine region_end (by kernel_rfl) ?_
      have HS1 := Lib.hid hS
      clear hS
      go_wp2_with fail
      go_roundw
      case rel => exact ⟨k + 1, A2, c2', by omega, by go_num, rfl, HO1.out, HS1.out.1, HS1.out.2⟩
      case measure => simp [intOf]; omega
    · obtain rfl : k = 16 := by omega
      have hown : Own wr B 5 A 32 c (byteAt u) := owns_more HO.out (by omega)
      have HOW := Lib.hid hown
      have HBE := Lib.hid (KB.out.trans (HLL.out.mono (by omega)))
      clear hown
      go_wp2_with fail
      go_ret
      exact ⟨A, c, rfl, by rw [hB]; exact HOW.out, by rw [hB]; exact HBE.out⟩

end RefF
end Go.Proofs.Ytnopjjkijedpeaa
