/- 'alive' of the statements of layer 12: the fixed calls come out as they must, and nothing that was there is written. -/
import Derived.Test.YtiemcfgjpcnloaaInnerCut
import Derived.Test.YtiemcfgjpcnloaaInnerWriteB
import Derived.Test.YtiemcfgjpcnloaaKit
namespace Go.Proofs.Ytiemcfgjpcnloaa
namespace Inner
open Go.ChangeShapes Go.WideShapes Go.ChangeAt Go.RowKit
open Num Mem Words Chacha Aead Poly Quiet

theorem src_of {w : World} {A : Option Addr} {n c : Nat} {f : Nat → Nat} (h : Rd w A n f) (hn : A = none → n = 0 ∧ c = 0) : Src w A n c f := by
  rcases A with _ | ad
  · obtain ⟨rfl, rfl⟩ := hn rfl
    exact .inl ⟨rfl, rfl, rfl⟩
  · refine .inr ⟨ad, rfl, ?_⟩
    rcases h with h | ⟨b, off, e, _, hc⟩
    · subst h
      intro j v hj
      simp [byteCells] at hj
    · injection e with e
      subst e
      exact rd_src hc
theorem le_cap {w : World} {B t k c : Nat} {A : Option Addr} {f : Nat → Nat} (h : Own w B t A k c f) : k ≤ c := by
  rcases h.2 with ⟨e, h0⟩ | ⟨g, cap, cur, e, _, _, h1, _⟩
  · omega
  · injection e with _ _ e3
    omega
theorem run_built3 {P : Program} {o : Oper} {a : Act} {w : World} (t : TypeId) (k1 k2 k3 : Nat) (x1 x2 x3 : Operand) (ho : o.op = .build t #[(k1, x1), (k2, x2), (k3, x3)]) (v1 v2 v3 : Value) (h1 : a.eval x1 = v1) (h2 : a.eval x2 = v2) (h3 : a.eval x3 = v3)
    (vs : Array Value) (hb : P.built t [(k1, v1), (k2, v2), (k3, v3)] = some vs) : (execOp a.eval o).run P w = .ok (.value (.agg vs)) w := by
  have e : P.built t ((#[(k1, x1), (k2, x2), (k3, x3)] : Array (Nat × Operand)).map fun (i, x) => (i, a.eval x)).toList = some vs := by simpa [h1, h2, h3] using hb
  unfold execOp
  simp only [ho, Sem.run_bind, run_build w t _ vs e, Result.andThen_ok, Sem.run_pure]
def one4 : Nat → Nat := fun i => if i < 4 then i + 1 else 0
def two4 : Nat → Nat := fun i => if i < 4 then i + 5 else 0
def ab2 : Nat → Nat := fun i => if i = 0 then 97 else 98
theorem one4_lt (i : Nat) : one4 i < 256 := by unfold one4; split <;> omega
theorem two4_lt (i : Nat) : two4 i < 256 := by unfold two4; split <;> omega
theorem ab2_lt (i : Nat) : ab2 i < 256 := by unfold ab2; split <;> omega
def four1 : Nat → Nat := fun i => if i < 4 then i + 1 else 0
theorem one_row : Try.prog.built 24 [(0, .int .u8 1), (1, .int .u8 2), (2, .int .u8 3), (3, .int .u8 4)] = some (byteCells one4 16).toArray := by kernel_rfl
theorem two_row : Try.prog.built 24 [(0, .int .u8 5), (1, .int .u8 6), (2, .int .u8 7), (3, .int .u8 8)] = some (byteCells two4 16).toArray := by kernel_rfl
theorem one_built : Try.prog.built 26 [(1, .agg (byteCells one4 16).toArray)] = some (addrL false one4).toArray := by kernel_rfl
theorem two_built : Try.prog.built 26 [(1, .agg (byteCells two4 16).toArray)] = some (addrL false two4).toArray := by kernel_rfl
theorem wpList_built4 {P : Program} {ops : Array Oper} {rest : List Oper} {o : Oper} {a : Act} {w : World} {Q : Exit → Act → World → Prop} (hg : o.guard = none) (t : TypeId) (k1 k2 k3 k4 : Nat) (x1 x2 x3 x4 : Operand) (ho : o.op = .build t #[(k1, x1), (k2, x2), (k3, x3), (k4, x4)])
    (v1 v2 v3 v4 : Value) (h1 : a.eval x1 = v1) (h2 : a.eval x2 = v2) (h3 : a.eval x3 = v3) (h4 : a.eval x4 = v4) (vs : Array Value) (hb : P.built t [(k1, v1), (k2, v2), (k3, v3), (k4, v4)] = some vs) (h : wpList P ops Q rest (a.put o.dst (.agg vs)) w) : wpList P ops Q (o :: rest) a w := by
  have e : P.built t ((#[(k1, x1), (k2, x2), (k3, x3), (k4, x4)] : Array (Nat × Operand)).map fun (i, x) => (i, a.eval x)).toList = some vs := by simpa [h1, h2, h3, h4] using hb
  refine wpList_build hg t #[(k1, x1), (k2, x2), (k3, x3), (k4, x4)] ho (by rw [e]; rfl) ?_
  rw [e]
  exact h

set_option maxRecDepth 100000 in
theorem one_any (w : World) : Calls Try.prog 15 #[] w fun e w' => e = .returned (.agg (addrL false one4).toArray) ∧ Below w.heap.size w w' := by
  obtain ⟨zs, hz, hzs⟩ : ∃ zs : Array Value, (∀ w, (zeroValue 26).run Try.prog w = .ok (.agg zs) w) ∧ zs.size = 17 := ⟨_, zero_addr, addr_size _ _⟩
  have HZS := Lib.hid hzs
  have B1 := Lib.hid one_row
  have B2 := Lib.hid one_built
  have HO := Lib.hid (addr_one false one4)
  have HLS := Lib.hid (addr_size false one4)
  obtain ⟨L, hL⟩ : ∃ L, (addrL false one4).toArray = L := ⟨_, rfl⟩
  obtain ⟨M, hM⟩ : ∃ M, (byteCells one4 16).toArray = M := ⟨_, rfl⟩
  rw [hM] at B1 B2
  rw [hL] at B2 HO HLS ⊢
  clear hL hM hzs
  go_enter Try.func15, Try.ntmps15
  go_wp2_with (first | (refine wpList_built4 rfl 24 0 1 2 3 (.const (.int .u8 1)) (.const (.int .u8 2)) (.const (.int .u8 3)) (.const (.int .u8 4)) rfl (.int .u8 1) (.int .u8 2) (.int .u8 3) (.int .u8 4) rfl rfl rfl rfl M B1.out ?_) | (refine wpList_built1 rfl 26 1 (.tmp 1) rfl (.agg M) rfl L B2.out ?_) | (refine wpList_store_row rfl 26 (.tmp 0) (.tmp 2) rfl w.heap.size L rfl rfl 26 _ (Whole.new _ _ zs) (by rw [HLS.out]; kernel_rfl) (by rw [HZS.out, HLS.out]) HO.out ?_))
  have hret : Whole ((w.alloc (.cells zs 26)).setRow w.heap.size L) w.heap.size 26 L := setRow_heap _ _ _ _ _ _ (Whole.new _ _ _)
  refine bodyPost_ret (results_cell_row rfl _ _ w.heap.size 26 _ (0, 0) _ rfl hret rfl rfl (by rw [HLS.out]; kernel_rfl)) rfl ?_
  exact ⟨rfl, below_setRow (below_alloc (Below.refl _ _) _) (Nat.le_refl _) _⟩
set_option maxRecDepth 100000 in
theorem two_any (w : World) : Calls Try.prog 16 #[] w fun e w' => e = .returned (.agg (addrL false two4).toArray) ∧ Below w.heap.size w w' := by
  obtain ⟨zs, hz, hzs⟩ : ∃ zs : Array Value, (∀ w, (zeroValue 26).run Try.prog w = .ok (.agg zs) w) ∧ zs.size = 17 := ⟨_, zero_addr, addr_size _ _⟩
  have HZS := Lib.hid hzs
  have B1 := Lib.hid two_row
  have B2 := Lib.hid two_built
  have HO := Lib.hid (addr_one false two4)
  have HLS := Lib.hid (addr_size false two4)
  obtain ⟨L, hL⟩ : ∃ L, (addrL false two4).toArray = L := ⟨_, rfl⟩
  obtain ⟨M, hM⟩ : ∃ M, (byteCells two4 16).toArray = M := ⟨_, rfl⟩
  rw [hM] at B1 B2
  rw [hL] at B2 HO HLS ⊢
  clear hL hM hzs
  go_enter Try.func16, Try.ntmps16
  go_wp2_with (first | (refine wpList_built4 rfl 24 0 1 2 3 (.const (.int .u8 5)) (.const (.int .u8 6)) (.const (.int .u8 7)) (.const (.int .u8 8)) rfl (.int .u8 5) (.int .u8 6) (.int .u8 7) (.int .u8 8) rfl rfl rfl rfl M B1.out ?_) | (refine wpList_built1 rfl 26 1 (.tmp 1) rfl (.agg M) rfl L B2.out ?_) | (refine wpList_store_row rfl 26 (.tmp 0) (.tmp 2) rfl w.heap.size L rfl rfl 26 _ (Whole.new _ _ zs) (by rw [HLS.out]; kernel_rfl) (by rw [HZS.out, HLS.out]) HO.out ?_))
  have hret : Whole ((w.alloc (.cells zs 26)).setRow w.heap.size L) w.heap.size 26 L := setRow_heap _ _ _ _ _ _ (Whole.new _ _ _)
  refine bodyPost_ret (results_cell_row rfl _ _ w.heap.size 26 _ (0, 0) _ rfl hret rfl rfl (by rw [HLS.out]; kernel_rfl)) rfl ?_
  exact ⟨rfl, below_setRow (below_alloc (Below.refl _ _) _) (Nat.le_refl _) _⟩

theorem alive_E : wrE false false one4 two4 2 = 0 := by decide +kernel
theorem alive_rdE : rdE (wrF false one4 two4 2 ab2) 22 = 0 := by decide +kernel
theorem alive_b0 : wrF false one4 two4 2 ab2 0 = 69 := by decide +kernel
theorem alive_b3 : wrF false one4 two4 2 ab2 3 = 22 := by decide +kernel

set_option maxRecDepth 100000 in
set_option maxHeartbeats 4000000 in
theorem alive_any (w : World) : Calls Try.prog 8 #[] w fun e w' => e = .returned (.bool true) ∧ Below w.heap.size w w' := by
  obtain ⟨L1, hL1⟩ : ∃ L, addrL false one4 = L := ⟨_, rfl⟩
  obtain ⟨L2, hL2⟩ : ∃ L, addrL false two4 = L := ⟨_, rfl⟩
  have CW := Lib.hid (fun A n c bd hE w => write_good false false one4 two4 one4_lt two4_lt A n c bd hE w)
  rw [hL1, hL2] at CW
  have CO := Lib.hid one_any
  have CT := Lib.hid two_any
  rw [hL1] at CO
  rw [hL2] at CT
  have HCV := Lib.hid (show ∀ (w : World) (C : Array Value) (n c : Nat), (convert 22 22 (.slice (some ⟨w.heap.size, 0, none⟩) n c)).run Try.prog (w.alloc (.cells C 5)) = .ok (.slice (some ⟨w.heap.size, 0, none⟩) n c) (w.alloc (.cells C 5 (C.size, C.size + 1))) from fun w C n c => Lib.run_convert_bytes_const w 22 5 C n c Try.underlying22 Try.underlying5)
  have HL1 := Lib.hid hL1
  have HL2 := Lib.hid hL2
  clear hL1 hL2
  go_enter Try.func8, Try.ntmps8
  go_wp2_with fail
  refine (CO.out _).mono ?_
  rintro e w1 ⟨rfl, hb1⟩
  have HB1 := Lib.hid hb1
  clear hb1
  go_wp2_with fail
  refine (CT.out _).mono ?_
  rintro e w2 ⟨rfl, hb2⟩
  have HB2 := Lib.hid (below_trans HB1.out hb2)
  clear hb2 HB1
  go_wp2_with fail
  rw [HCV.out]
  go_wp2_with fail
  have r1 : Rd (w2.alloc (.cells #[.int .u8 97, .int .u8 98] 5 (2, 3))) (some ⟨w2.heap.size, 0, none⟩) 2 ab2 := rd_marked rfl rfl
  refine (CW.out (some ⟨w2.heap.size, 0, none⟩) 2 2 ab2 alive_E _ (fun X hb => src_of (r1.below hb (Nat.le_refl _)) (fun e => by cases e))).mono ?_
  rintro e w3 ⟨A3, c3, rfl, o3, hb3⟩
  have HB3 := Lib.hid (below_trans (below_alloc HB2.out _) hb3)
  have O3 := Lib.hid o3
  have hcap := le_cap o3
  have hmax := own_max o3
  clear r1 o3 hb3 HB2
  rw [show hsz false + 2 = 22 from rfl] at O3 hcap ⊢
  obtain ⟨T, hT⟩ : ∃ T, wrF false one4 two4 2 ab2 = T := ⟨_, rfl⟩
  have hTl : ∀ i, T i < 256 := fun i => by rw [← hT]; exact wrF_lt one4_lt two4_lt ab2_lt (by omega) i
  have hE0 : rdE T 22 = 0 := by rw [← hT]; exact alive_rdE
  have CR := Lib.hid (read_any A3 22 c3 T hTl (by omega) hcap hmax w3 (by rw [← hT]; exact O3.out.rd))
  have HRL := Lib.hid (show rdL T 22 = packL false (at4 T 12) false (at4 T 16) 22 from by
    have h4 : T 0 / 16 = 4 := by rw [← hT, alive_b0]
    have hs : sz4 T = 22 := by rw [← hT]; decide +kernel
    unfold rdL
    rw [if_pos hE0, if_pos h4, hs]
    rfl)
  obtain ⟨b, off, rfl, hbl, hc⟩ : ∃ b off, A3 = some ⟨b, off, none⟩ ∧ b < w3.heap.size ∧ ∀ i, i < 22 → w3.cell? ⟨b, off + i, none⟩ = some (.int .u8 (wrF false one4 two4 2 ab2 i : Nat)) := by
    rcases O3.out.rd with h | h
    · omega
    · exact h
  have hC0 := hc 0 (by omega)
  have hC3 := hc 3 (by omega)
  rw [alive_b0, Nat.add_zero] at hC0
  rw [alive_b3] at hC3
  have HEQ := Lib.hid (fun w => eqin_pack 9996 false false false false (at4 T 12) one4 (at4 T 16) two4 22 22 (at4_lt hTl 12) one4_lt (at4_lt hTl 16) two4_lt true (by
    rw [← hT]
    refine ⟨fun _ => ⟨⟨rfl, ?_⟩, ⟨rfl, ?_⟩, rfl⟩, fun _ => rfl⟩
    · decide +kernel
    · decide +kernel) w)
  have HP2B := Lib.hid (pack_built3 false one4 false two4 22)
  rw [HL1.out, HL2.out] at HP2B
  obtain ⟨P2, hP2⟩ : ∃ P2, packL false one4 false two4 22 = P2 := ⟨_, rfl⟩
  obtain ⟨P1, hP1⟩ : ∃ P1, packL false (at4 T 12) false (at4 T 16) 22 = P1 := ⟨_, rfl⟩
  have HP1S := Lib.hid (show P1.toArray.size = 35 from by rw [← hP1, pack_size])
  have HP1O := Lib.hid (show P1.toArray.all (·.oneCell') = true from by rw [← hP1]; exact pack_one _ _ _ _ _)
  rw [hP1, hP2] at HEQ
  rw [hP2] at HP2B
  rw [hP1] at HRL
  rw [HRL.out, hE0] at CR
  obtain ⟨zs, hz, hzs⟩ : ∃ zs : Array Value, (∀ w, (zeroValue 28).run Try.prog w = .ok (.agg zs) w) ∧ zs.size = 35 := ⟨_, zero_pack, pack_size _ _ _ _ _⟩
  have HZS := Lib.hid hzs
  clear hzs hP1 hP2 hc O3 HRL hT hTl hE0 hcap hmax
  go_wp2_with fail
  refine CR.out.mono ?_
  rintro e w4 ⟨rfl, hb4⟩
  have KB4 := Lib.hid (below_trans HB3.out hb4)
  have C04 := Lib.hid ((hb4.cell (p := ⟨b, off, none⟩) hbl).trans hC0)
  have C34 := Lib.hid ((hb4.cell (p := ⟨b, off + 3, none⟩) hbl).trans hC3)
  have hbl4 : b < w4.heap.size := Nat.lt_of_lt_of_le hbl hb4.size
  clear hb4 HB3 hC0 hC3 CR hbl
  go_upto_region 3 with (refine wpList_store_row rfl 28 (.tmp 3) (.tmp 18) rfl w4.heap.size P1.toArray rfl rfl 28 _ (Whole.new _ _ zs) (by rw [HP1S.out]; kernel_rfl) (by rw [HP1S.out, HZS.out]) HP1O.out ?_)
  try simp only [Act.put]
  have hbs : Below w4.heap.size w4 ((w4.alloc (.cells zs 28)).setRow w4.heap.size P1.toArray) := below_setRow (below_alloc (Below.refl _ _) _) (Nat.le_refl _) _
  refine cut_world (fun X => Whole X w4.heap.size 28 P1.toArray ∧ Below w.heap.size w X ∧ X.cell? ⟨b, off, none⟩ = some (.int .u8 69) ∧ X.cell? ⟨b, off + 3, none⟩ = some (.int .u8 22) ∧ b < X.heap.size) ⟨setRow_heap _ _ _ _ _ _ (Whole.new _ _ _), below_trans KB4.out hbs, (hbs.cell (p := ⟨b, off, none⟩) hbl4).trans C04.out, (hbs.cell (p := ⟨b, off + 3, none⟩) hbl4).trans C34.out, Nat.lt_of_lt_of_le hbl4 hbs.size⟩ ?_
  clear hbs hbl4 KB4 C04 C34
  generalize w4.heap.size = G
  rintro W ⟨k1, kb, kc0, kc3, kl⟩
  have K1 := Lib.hid k1
  have KB := Lib.hid kb
  have D0 := Lib.hid kc0
  have D3 := Lib.hid kc3
  clear k1 kb kc0 kc3
  go_wp2_with fail
  have f80 : ∀ i, (fun _ : Nat => 80) i < 256 := fun _ => by show 80 < 256; omega
  refine (read_any (some ⟨W.heap.size, 0, none⟩) 1 1 (fun _ => 80) f80 (by omega) (Nat.le_refl _) (by omega) _ (Rd.of_new rfl rfl)).mono ?_
  rintro e w5 ⟨rfl, hb5⟩
  rw [show rdE (fun _ => 80) 1 = 50 from by decide +kernel, rd_nought (f := fun _ => 80) (n := 1) (by decide +kernel)]
  have hb6 := below_new (Below.refl _ W) hb5
  have K5 := Lib.hid (K1.out.below hb6 K1.out.lt)
  have KB5 := Lib.hid (below_trans KB.out hb6)
  have D05 := Lib.hid ((hb6.cell (p := ⟨b, off, none⟩) kl).trans D0.out)
  have D35 := Lib.hid ((hb6.cell (p := ⟨b, off + 3, none⟩) kl).trans D3.out)
  have kl5 : b < w5.heap.size := Nat.lt_of_lt_of_le kl hb6.size
  obtain ⟨P0, hP0⟩ : ∃ P0, packL false nought false nought 0 = P0 := ⟨_, rfl⟩
  rw [hP0]
  have HP0S := Lib.hid (show P0.toArray.size = 35 from by rw [← hP0, pack_size])
  have HP0O := Lib.hid (show P0.toArray.all (·.oneCell') = true from by rw [← hP0]; exact pack_one _ _ _ _ _)
  clear hb5 hb6 K1 KB D0 D3 kl hP0 f80
  go_upto_region 4 with (refine wpList_store_row rfl 28 (.tmp 5) (.tmp 23) rfl w5.heap.size P0.toArray rfl rfl 28 _ (Whole.new _ _ zs) (by rw [HP0S.out]; kernel_rfl) (by rw [HP0S.out, HZS.out]) HP0O.out ?_)
  try simp only [Act.put]
  have hbs : Below w5.heap.size w5 ((w5.alloc (.cells zs 28)).setRow w5.heap.size P0.toArray) := below_setRow (below_alloc (Below.refl _ _) _) (Nat.le_refl _) _
  refine cut_world (fun X => Whole X G 28 P1.toArray ∧ Below w.heap.size w X ∧ X.cell? ⟨b, off, none⟩ = some (.int .u8 69) ∧ X.cell? ⟨b, off + 3, none⟩ = some (.int .u8 22) ∧ b < X.heap.size) ⟨K5.out.below hbs K5.out.lt, below_trans KB5.out hbs, (hbs.cell (p := ⟨b, off, none⟩) kl5).trans D05.out, (hbs.cell (p := ⟨b, off + 3, none⟩) kl5).trans D35.out, Nat.lt_of_lt_of_le kl5 hbs.size⟩ ?_
  clear hbs kl5 KB5 K5 D05 D35
  generalize w5.heap.size = G5
  rintro W6 ⟨k1, kb, kc0, kc3, kl⟩
  have KP := Lib.hid k1
  have KB := Lib.hid kb
  have HC0 := Lib.hid kc0
  have HC3 := Lib.hid kc3
  have HBL := Lib.hid kl
  clear k1 kb kc0 kc3 kl hz
  refine q_start (by kernel_rfl) (by kernel_rfl) ?_
  refine q_take _ (by rfl) (by intro w _; go_simp; try with_reducible rfl) ?_
  try simp only [Act.put, List.setIfInBounds_toArray, List.set_cons_zero, List.set_cons_succ]
  refine q_take _ (by rfl) (by intro w _; go_simp; try with_reducible rfl) ?_
  try simp only [Act.put, List.setIfInBounds_toArray, List.set_cons_zero, List.set_cons_succ]
  refine q_take _ (by rfl) (by intro w _; go_simp; try with_reducible rfl) ?_
  try simp only [Act.put, List.setIfInBounds_toArray, List.set_cons_zero, List.set_cons_succ]
  refine q_take _ (by rfl) (by intro w _; go_simp; try with_reducible rfl) ?_
  try simp only [Act.put, List.setIfInBounds_toArray, List.set_cons_zero, List.set_cons_succ]
  refine q_take _ (by rfl) (by intro w _; go_simp; try with_reducible rfl) ?_
  try simp only [Act.put, List.setIfInBounds_toArray, List.set_cons_zero, List.set_cons_succ]
  refine q_take _ (by rfl) (by intro w _; go_simp; try with_reducible rfl) ?_
  try simp only [Act.put, List.setIfInBounds_toArray, List.set_cons_zero, List.set_cons_succ]
  refine q_take _ (by rfl) (by intro w _; go_simp; try with_reducible rfl) ?_
  try simp only [Act.put, List.setIfInBounds_toArray, List.set_cons_zero, List.set_cons_succ]
  refine q_take _ (by rfl) (by intro w _; go_simp; try with_reducible rfl) ?_
  try simp only [Act.put, List.setIfInBounds_toArray, List.set_cons_zero, List.set_cons_succ]
  refine q_take _ (by rfl) (by intro w _; go_simp; try with_reducible rfl) ?_
  try simp only [Act.put, List.setIfInBounds_toArray, List.set_cons_zero, List.set_cons_succ]
  refine q_take _ (by rfl) (by intro w _; go_simp; try with_reducible rfl) ?_
  try simp only [Act.put, List.setIfInBounds_toArray, List.set_cons_zero, List.set_cons_succ]
  refine q_take (.int .u8 69) (by rfl) (fun x hx => by have hc : x.cell? ⟨b, off, none⟩ = some (.int .u8 69) := (hx.cell (p := ⟨b, off, none⟩) HBL.out).trans HC0.out; go_simp; try with_reducible rfl) ?_
  try simp only [Act.put, List.setIfInBounds_toArray, List.set_cons_zero, List.set_cons_succ]
  refine q_take _ (by rfl) (by intro w _; go_simp; try with_reducible rfl) ?_
  try simp only [Act.put, List.setIfInBounds_toArray, List.set_cons_zero, List.set_cons_succ]
  refine q_take _ (by rfl) (by intro w _; go_simp; try with_reducible rfl) ?_
  try simp only [Act.put, List.setIfInBounds_toArray, List.set_cons_zero, List.set_cons_succ]
  refine q_take _ (by rfl) (by intro w _; go_simp; try with_reducible rfl) ?_
  try simp only [Act.put, List.setIfInBounds_toArray, List.set_cons_zero, List.set_cons_succ]
  refine q_take _ (by rfl) (by intro w _; go_simp; try with_reducible rfl) ?_
  try simp only [Act.put, List.setIfInBounds_toArray, List.set_cons_zero, List.set_cons_succ]
  refine q_take _ (by rfl) (by intro w _; go_simp; try with_reducible rfl) ?_
  try simp only [Act.put, List.setIfInBounds_toArray, List.set_cons_zero, List.set_cons_succ]
  refine q_take (.int .u8 22) (by rfl) (fun x hx => by have hc : x.cell? ⟨b, off + 3, none⟩ = some (.int .u8 22) := (hx.cell (p := ⟨b, off + 3, none⟩) HBL.out).trans HC3.out; go_simp; try with_reducible rfl) ?_
  try simp only [Act.put, List.setIfInBounds_toArray, List.set_cons_zero, List.set_cons_succ]
  refine q_take _ (by rfl) (by intro w _; go_simp; try with_reducible rfl) ?_
  try simp only [Act.put, List.setIfInBounds_toArray, List.set_cons_zero, List.set_cons_succ]
  refine q_take _ (by rfl) (by intro w _; go_simp; try with_reducible rfl) ?_
  try simp only [Act.put, List.setIfInBounds_toArray, List.set_cons_zero, List.set_cons_succ]
  refine q_take _ (by rfl) (by intro w _; go_simp; try with_reducible rfl) ?_
  try simp only [Act.put, List.setIfInBounds_toArray, List.set_cons_zero, List.set_cons_succ]
  refine q_take _ (by rfl) (by intro w _; go_simp; try with_reducible rfl) ?_
  try simp only [Act.put, List.setIfInBounds_toArray, List.set_cons_zero, List.set_cons_succ]
  refine q_take _ (by rfl) (by intro w _; go_simp; try with_reducible rfl) ?_
  try simp only [Act.put, List.setIfInBounds_toArray, List.set_cons_zero, List.set_cons_succ]
  refine q_take _ (by rfl) (by intro w _; go_simp; try with_reducible rfl) ?_
  try simp only [Act.put, List.setIfInBounds_toArray, List.set_cons_zero, List.set_cons_succ]
  refine q_take _ (by rfl) (by intro w _; go_simp; try with_reducible rfl) ?_
  try simp only [Act.put, List.setIfInBounds_toArray, List.set_cons_zero, List.set_cons_succ]
  refine q_take (.agg P1.toArray) (by rfl) (fun x hx => run_load_in 28 (.tmp 3) rfl G rfl P1.toArray 35 HP1S.out (KP.out.below hx KP.out.lt) rfl rfl (by kernel_rfl)) ?_
  try simp only [Act.put, List.setIfInBounds_toArray, List.set_cons_zero, List.set_cons_succ]
  refine q_call (.agg L1.toArray) 15 #[] (by rfl) (by intro w; go_simp; try with_reducible rfl) (fun x hx => (CO.out x).mono fun e w' ⟨he, hb⟩ => ⟨he, below_trans hx hb⟩) ?_
  try simp only [Act.put, List.setIfInBounds_toArray, List.set_cons_zero, List.set_cons_succ]
  refine q_call (.agg L2.toArray) 16 #[] (by rfl) (by intro w; go_simp; try with_reducible rfl) (fun x hx => (CT.out x).mono fun e w' ⟨he, hb⟩ => ⟨he, below_trans hx hb⟩) ?_
  try simp only [Act.put, List.setIfInBounds_toArray, List.set_cons_zero, List.set_cons_succ]
  refine q_take (.agg P2.toArray) (by rfl) (fun x _ => run_built3 28 0 1 2 (.tmp 50) (.tmp 51) (.const (.int .i64 22)) rfl (.agg L1.toArray) (.agg L2.toArray) (.int .i64 22) rfl rfl rfl P2.toArray HP2B.out) ?_
  try simp only [Act.put, List.setIfInBounds_toArray, List.set_cons_zero, List.set_cons_succ]
  refine q_take (.bool true) (by rfl) (fun x _ => run_eql_op 28 (.tmp 49) (.tmp 52) _ rfl P1.toArray P2.toArray rfl rfl true (by kernel_rfl) HEQ.out x) ?_
  try simp only [Act.put, List.setIfInBounds_toArray, List.set_cons_zero, List.set_cons_succ]
  refine q_take _ (by rfl) (by intro w _; go_simp; try with_reducible rfl) ?_
  try simp only [Act.put, List.setIfInBounds_toArray, List.set_cons_zero, List.set_cons_succ]
  refine q_take _ (by rfl) (by intro w _; go_simp; try with_reducible rfl) ?_
  try simp only [Act.put, List.setIfInBounds_toArray, List.set_cons_zero, List.set_cons_succ]
  refine q_take _ (by rfl) (by intro w _; go_simp; try with_reducible rfl) ?_
  try simp only [Act.put, List.setIfInBounds_toArray, List.set_cons_zero, List.set_cons_succ]
  refine q_take _ (by rfl) (by intro w _; go_simp; try with_reducible rfl) ?_
  try simp only [Act.put, List.setIfInBounds_toArray, List.set_cons_zero, List.set_cons_succ]
  refine q_take _ (by rfl) (by intro w _; go_simp; try with_reducible rfl) ?_
  try simp only [Act.put, List.setIfInBounds_toArray, List.set_cons_zero, List.set_cons_succ]
  refine q_take _ (by rfl) (by intro w _; go_simp; try with_reducible rfl) ?_
  try simp only [Act.put, List.setIfInBounds_toArray, List.set_cons_zero]
  refine wpQuiet_nil ?_
  intro W7 hb7
  have KB7 := Lib.hid (below_trans KB.out hb7)
  go_wp2_with fail
  go_ret
  exact ⟨rfl, KB7.out⟩

end Inner
end Go.Proofs.Ytiemcfgjpcnloaa
