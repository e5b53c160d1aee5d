/- The document's own ladder (package aditref06). -/
import Derived.Test.YtnopjjkijedpeaaCurveNum
import Derived.Test.YtnopjjkijedpeaaRefField
import Derived.Test.YtnopjjkijedpeaaFloatB
import Derived.Test.YtnopjjkijedpeaaFloatC
namespace Go.Proofs.Ytnopjjkijedpeaa
namespace RefC
open Go.ChangeShapes Go.WideShapes Go.ChangeAt Go.RowKit
open Num Mem Words Radix FieldN Chacha Quiet Go.Proofs.Ytnopjjkijedpeaa.Field Edwards Curve

def nc (v : Nat) : Array Value := (icells (dg 65536 v) 16).toArray
def zn : Array Value := (icells (fun _ => 0) 16).toArray
theorem zn_size : zn.size = 16 := icells_size _ _
/-- a row that is of a number modulo the prime -/
def NN (z : Fin P) (c : Array Value) : Prop := ∃ m, m < RefF.M256 ∧ m % P = z.val ∧ c = nc m
theorem nn_size {z : Fin P} {c : Array Value} (h : NN z c) : c.size = 16 := by
  obtain ⟨m, _, _, rfl⟩ := h
  exact icells_size _ _
theorem nn_one {z : Fin P} {c : Array Value} (h : NN z c) : c.all (·.oneCell') = true := by
  obtain ⟨m, _, _, rfl⟩ := h
  exact icells_one _ _
def IsN (z : Fin P) (v : Value) : Prop := ∃ c, NN z c ∧ v = .agg c
theorem isN {z : Fin P} {c : Array Value} (h : NN z c) : IsN z (.agg c) := ⟨c, h, rfl⟩
theorem P_M : P < RefF.M256 := by have := RefF.M_P; omega
theorem nn_self (z : Fin P) : NN z (nc z.val) := ⟨z.val, Nat.lt_trans z.isLt P_M, Nat.mod_eq_of_lt z.isLt, rfl⟩
theorem isN_self (z : Fin P) : IsN z (.agg (nc z.val)) := isN (nn_self z)
theorem cc2_lt {v : Nat} (h : v < 8 * RefF.M256) : RefF.cc2 v < RefF.M256 := RefF.cv_two (Nat.lt_of_lt_of_le (Nat.div_lt_of_lt_mul (by rw [Nat.mul_comm]; exact h)) (by omega))
theorem M_P3 : RefF.M256 < 3 * P := by have := RefF.M_P; have := P_big; omega
theorem sub_same (x y : Nat) (hy : y < 3 * P) : (x + 4 * P - y) % P = (x % P + (P - y % P)) % P := by
  have h1 := Nat.div_add_mod x P
  have h2 := Nat.div_add_mod y P
  have hq : y / P < 3 := Nat.div_lt_of_lt_mul (by rw [Nat.mul_comm]; exact hy)
  have hb := Nat.mod_lt y P_pos
  generalize x / P = q at h1
  generalize x % P = a at h1 ⊢
  generalize y / P = r at h2 hq
  generalize y % P = b at h2 hb ⊢
  have e : x + 4 * P - y = a + (P - b) + P * (q + (3 - r)) := by
    rw [Nat.mul_add, ← h1, ← h2]
    generalize P * q = Z
    rcases (show r = 0 ∨ r = 1 ∨ r = 2 by omega) with rfl | rfl | rfl <;> omega
  rw [e, Nat.add_mul_mod_self_left]
/-- what a call of the document's own gives of two such numbers -/
def Op2 (fn : FuncId) (z1 z2 z : Fin P) : Prop := ∀ {v1 v2 : Value}, IsN z1 v1 → IsN z2 v2 → ∀ w, Calls Try.prog fn #[v1, v2] w fun e w' => ∃ v, e = .returned v ∧ IsN z v ∧ Below w.heap.size w w'
theorem addN {z1 z2 : Fin P} {v1 v2 : Value} (h1 : IsN z1 v1) (h2 : IsN z2 v2) (w : World) : Calls Try.prog 16 #[v1, v2] w fun e w' => ∃ v, e = .returned v ∧ IsN (z1 + z2) v ∧ Below w.heap.size w w' := by
  obtain ⟨_, ⟨m, hm, hz, rfl⟩, rfl⟩ := h1
  obtain ⟨_, ⟨n, hn, hy, rfl⟩, rfl⟩ := h2
  refine (RefF.add_any m n hm hn w).mono ?_
  rintro e w' ⟨rfl, hb⟩
  exact ⟨_, rfl, isN ⟨_, cc2_lt (by omega), by rw [RefF.cc2_mod, Nat.add_mod, hz, hy, Fin.val_add], rfl⟩, hb⟩
theorem subN {z1 z2 : Fin P} {v1 v2 : Value} (h1 : IsN z1 v1) (h2 : IsN z2 v2) (w : World) : Calls Try.prog 17 #[v1, v2] w fun e w' => ∃ v, e = .returned v ∧ IsN (z1 - z2) v ∧ Below w.heap.size w w' := by
  obtain ⟨_, ⟨m, hm, hz, rfl⟩, rfl⟩ := h1
  obtain ⟨_, ⟨n, hn, hy, rfl⟩, rfl⟩ := h2
  refine (RefF.sub_any m n hm hn w).mono ?_
  rintro e w' ⟨rfl, hb⟩
  exact ⟨_, rfl, isN ⟨_, cc2_lt (by have := RefF.M_P; omega), by rw [RefF.cc2_mod, sub_same m n (Nat.lt_trans hn M_P3), hz, hy, val_sub], rfl⟩, hb⟩
theorem mulN' {z1 z2 : Fin P} {v1 v2 : Value} (h1 : IsN z1 v1) (h2 : IsN z2 v2) (w : World) : Calls Try.prog 23 #[v1, v2] w fun e w' => ∃ v, e = .returned v ∧ IsN (z1 * z2) v ∧ Below w.heap.size w w' := by
  obtain ⟨_, ⟨m, hm, hz, rfl⟩, rfl⟩ := h1
  obtain ⟨_, ⟨n, hn, hy, rfl⟩, rfl⟩ := h2
  refine (RefF.mul_any m n hm hn w).mono ?_
  rintro e w' ⟨x, hx1, hx2, rfl, hb⟩
  exact ⟨_, rfl, isN ⟨x, hx1, by rw [hx2, Nat.mul_mod, hz, hy, val_mul], rfl⟩, hb⟩
theorem invN {z : Fin P} {v : Value} (h : IsN z v) (w : World) : Calls Try.prog 27 #[v] w fun e w' => ∃ v, e = .returned v ∧ IsN (ivP z) v ∧ Below w.heap.size w w' := by
  obtain ⟨_, ⟨m, hm, hz, rfl⟩, rfl⟩ := h
  refine (RefF.invert_any m hm w).mono ?_
  rintro e w' ⟨x, hx1, hx2, rfl, hb⟩
  exact ⟨_, rfl, isN ⟨x, hx1, by rw [hx2, Nat.pow_mod, hz, ivP_val], rfl⟩, hb⟩
theorem bytesN {z : Fin P} {v : Value} (h : IsN z v) (w : World) : Calls Try.prog 14 #[v] w fun e w' => ∃ A c, e = .returned (.slice A 32 c) ∧ Own w' w.heap.size 5 A 32 c (byteAt z.val) ∧ Below w.heap.size w w' := by
  obtain ⟨_, ⟨m, hm, hz, rfl⟩, rfl⟩ := h
  have := RefF.bytes_any m hm w
  rw [hz] at this
  exact this
theorem le_heap {X : World} {b B : Nat} {t : TypeId} {cs : Array Value} (h : Whole X b t cs) (hb : B ≤ b) : B ≤ X.heap.size := Nat.le_trans hb (Nat.le_of_lt (Whole.lt h))

/-- four rows that change places, and what else stays -/
structure Sw4 (w : World) (B b1 b2 b3 b4 : Nat) (c1 c2 c3 c4 : Array Value) (R : World → Prop) (p : List Nat) (Z : World) : Prop where
  r1 : (4 ∈ p → Whole Z b1 24 c1) ∧ (4 ∉ p → Whole Z b1 24 c3)
  r2 : (5 ∈ p → Whole Z b2 24 c2) ∧ (5 ∉ p → Whole Z b2 24 c4)
  r3 : (6 ∈ p → Whole Z b3 24 c3) ∧ (6 ∉ p → Whole Z b3 24 c1)
  r4 : (7 ∈ p → Whole Z b4 24 c4) ∧ (7 ∉ p → Whole Z b4 24 c2)
  bel : Below B w Z
  oth : R Z
theorem keep {p : List Nat} {i j : Nat} {A C : Prop} (h : (j ∈ p → A) ∧ (j ∉ p → C)) (hi : j ≠ i) : (j ∈ p.erase i → A) ∧ (j ∉ p.erase i → C) :=
  ⟨fun e => h.1 (List.mem_of_mem_erase e), fun e => h.2 fun e' => e ((List.mem_erase_of_ne hi).2 e')⟩
theorem keepF {p : List Nat} {i j : Nat} {A C A' C' : Prop} (h : (j ∈ p → A) ∧ (j ∉ p → C)) (hi : j ≠ i) (hA : A → A') (hC : C → C') : (j ∈ p.erase i → A') ∧ (j ∉ p.erase i → C') :=
  ⟨fun e => hA (h.1 (List.mem_of_mem_erase e)), fun e => hC (h.2 fun e' => e ((List.mem_erase_of_ne hi).2 e'))⟩
theorem done {p : List Nat} {i : Nat} {A C : Prop} (hn : p.Nodup) (hC : C) : (i ∈ p.erase i → A) ∧ (i ∉ p.erase i → C) := ⟨fun e => absurd e (FloatC.erase_self hn), fun _ => hC⟩
theorem Sw4.skip {w Z : World} {B b1 b2 b3 b4 : Nat} {c1 c2 c3 c4 : Array Value} {R : World → Prop} {p : List Nat} (h : Sw4 w B b1 b2 b3 b4 c1 c2 c3 c4 R p Z) (i : Nat) (hi : i < 4) : Sw4 w B b1 b2 b3 b4 c1 c2 c3 c4 R (p.erase i) Z :=
  ⟨keep h.r1 (by omega), keep h.r2 (by omega), keep h.r3 (by omega), keep h.r4 (by omega), h.bel, h.oth⟩

theorem kP_val' : kP.val = 121665 := by
  show kL = 121665
  unfold kL
  rfl
theorem sm_kP : IsN kP (.agg (nc 121665)) := isN ⟨121665, by have := RefF.M_big; omega, by rw [kP_val']; exact Nat.mod_eq_of_lt (by have := P_big; omega), rfl⟩
theorem sm_one : NN 1 (nc 1) := ⟨1, by have := RefF.M_big; omega, by rw [val_one]; exact Nat.mod_eq_of_lt (by have := P_big; omega), rfl⟩
theorem sm_zero : NN 0 (nc 0) := ⟨0, by have := RefF.M_big; omega, by rw [val_zero]; exact Nat.zero_mod _, rfl⟩
theorem tk_nn {f : Nat → Nat} {u : Fin P} (hu : tk f = u.val) : NN u (nc (le f 0 32 % T)) := ⟨_, Nat.lt_of_lt_of_le (Nat.mod_lt _ (by have := T_big; omega)) (by have := RefF.M_T; omega), hu, rfl⟩
theorem le_below {W w : World} (h : Below W.heap.size W w) : W.heap.size ≤ w.heap.size := h.size

/-- what lies in memory round by round -/
def RefW (w : World) (B b6 b7 b8 b9 b10 : Nat) (u : Fin P) (s : Four P) (Z : World) : Prop :=
  ∃ c6 c7 c8 c9 c10, NN u c6 ∧ NN s.x2 c7 ∧ NN s.z2 c8 ∧ NN s.x3 c9 ∧ NN s.z3 c10 ∧ Whole Z b6 24 c6 ∧ Whole Z b7 24 c7 ∧ Whole Z b8 24 c8 ∧ Whole Z b9 24 c9 ∧ Whole Z b10 24 c10 ∧ Below B w Z

set_option maxRecDepth 100000 in
set_option maxHeartbeats 16000000 in
theorem mul_core (A A' : Option Addr) (cp cp' : Nat) (k f : Nat → Nat) (w0 : World) (hk : ∀ i, k i < 256) (hf : ∀ i, f i < 256) (hr' : Rd w0 A' 32 f) (u : Fin P) (hu : tk f = u.val)
    (hc : Calls Try.prog 33 #[.slice A 32 cp] w0 fun e w' => ∃ A2 c2, e = .returned (.slice A2 32 c2) ∧ Own w' w0.heap.size 5 A2 32 c2 k ∧ Below w0.heap.size w0 w') :
    Calls Try.prog 34 #[.slice A 32 cp, .slice A' 32 cp'] w0 fun e w' => ∃ A2 c2, e = .returned (.slice A2 32 c2) ∧ Own w' w0.heap.size 5 A2 32 c2 (byteAt (lad (le k 0 32) u).val) ∧ Below w0.heap.size w0 w' := by
  obtain ⟨E, hE⟩ : ∃ E, E = le k 0 32 := ⟨_, rfl⟩
  have HBIT := Lib.hid (le_bit k hk)
  rw [← hE] at HBIT ⊢
  have HK := Lib.hid hk
  have HC := Lib.hid hc
  have HRD := Lib.hid hr'
  have HTK := Lib.hid (fun w h => RefF.take_any A' cp' f hf w h)
  have nU := Lib.hid (tk_nn hu)
  generalize le f 0 32 % T = U at HTK nU
  clear hk hf hr' hu hc hE
  go_enter Try.func34, Try.ntmps34
  go_wp2_with fail
  refine HC.out.mono ?_
  rintro e w ⟨Ak, ck, rfl, oc, hb⟩
  obtain ⟨kb', rfl, hkb, hkb2⟩ := owns_some oc (by omega : 0 < 32)
  have HCELL := Lib.hid (show ∀ j, j < 32 → w.cell? ⟨kb', j, none⟩ = some (.int .u8 (k j : Nat)) from by
    rcases oc.rd with h | ⟨b, off, hA, _, hc⟩
    · omega
    · cases hA
      intro j hj
      have := hc j hj
      rwa [Nat.zero_add] at this)
  have HB0 := Lib.hid hb
  have hrd := HRD.out.below hb (Nat.le_refl _)
  clear oc hb HC
  go_wp2_with fail
  refine (HTK.out _ hrd).mono ?_
  rintro e v1 ⟨rfl, hb⟩
  have KB := Lib.hid hb
  clear hb hrd
  generalize hB : w.heap.size = B at KB hkb2
  have hsz := Lib.hid KB.out.size
  have hs1 : B ≤ v1.heap.size := by rw [← hB]; exact hsz.out
  go_upto_region 3 with (refine wpList_store_row rfl 24 (.tmp 6) (.tmp 25) rfl v1.heap.size (nc U) rfl rfl 24 _ (Whole.new _ _ _) (by rw [nn_size nU.out]; kernel_rfl) (by rw [nn_size nU.out]; rfl) (nn_one nU.out) ?_)
  refine cut_world (fun X => Whole X v1.heap.size 24 (nc U) ∧ Below B w X ∧ B ≤ v1.heap.size) ⟨setRow_heap _ _ _ _ _ _ (Whole.new _ _ _), below_setRow (KB.out.alloc hs1 _) hs1 _, hs1⟩ ?_
  clear KB hs1
  generalize v1.heap.size = b6
  rintro X1 ⟨k6, kb, lo6⟩
  have H6 := Lib.hid k6
  have KB := Lib.hid kb
  clear k6 kb
  go_wp2_with fail
  refine (RefF.small_any 1 (by omega) _).mono ?_
  rintro e v2 ⟨rfl, hb⟩
  have lt_6 := H6.out.lt
  replace H6 := Lib.hid (H6.out.below hb lt_6)
  replace KB := Lib.hid (KB.out.trans (hb.mono (by omega)))
  have hs2 := hb.size
  clear hb
  go_wp2_with fail
  refine (RefF.small_any 0 (by omega) _).mono ?_
  rintro e v3 ⟨rfl, hb⟩
  have lt_6' := H6.out.lt
  replace H6 := Lib.hid (H6.out.below hb lt_6')
  replace KB := Lib.hid (KB.out.trans (hb.mono (by omega)))
  have hs3 := hb.size
  clear hb
  have n1 := Lib.hid sm_one
  have n0 := Lib.hid sm_zero
  go_upto_region 4 with (first | (refine wpList_store_row rfl 24 (.tmp 7) (.tmp 26) rfl v3.heap.size (nc 1) rfl rfl 24 _ (Whole.alloc (Whole.new _ _ _) _) (by rw [nn_size n1.out]; kernel_rfl) (by rw [nn_size n1.out]; rfl) (nn_one n1.out) ?_) | (refine wpList_store_row rfl 24 (.tmp 8) (.tmp 27) rfl (v3.heap.size + 1) (nc 0) rfl rfl 24 _ (Whole.farRow (whole_new _ _ (by simp)) (by omega) _) (by rw [nn_size n0.out]; kernel_rfl) (by rw [nn_size n0.out]; rfl) (nn_one n0.out) ?_))
  refine cut_world (fun X => Whole X b6 24 (nc U) ∧ Whole X v3.heap.size 24 (nc 1) ∧ Whole X (v3.heap.size + 1) 24 (nc 0) ∧ Below B w X ∧ b6 < v3.heap.size) ⟨Whole.farRow (Whole.farRow ((H6.out.alloc _).alloc _) (by omega) _) (by omega) _, Whole.farRow (setRow_heap _ _ _ _ _ _ (Whole.alloc (Whole.new _ _ _) _)) (by omega) _, setRow_heap _ _ _ _ _ _ (Whole.farRow (whole_new _ _ (by simp)) (by omega) _), below_setRow (below_setRow ((KB.out.alloc (by omega) _).alloc (by simp; omega) _) (by omega) _) (by omega) _, by omega⟩ ?_
  clear H6 KB lt_6 lt_6' hs2 hs3
  generalize hb7 : v3.heap.size = b7
  obtain ⟨b8, hb8⟩ : ∃ b, b = b7 + 1 := ⟨_, rfl⟩
  rw [← hb8]
  have o7_8 : b7 < b8 := by omega
  clear hb7
  rintro X2 ⟨k6, k7, k8, kb, o6_7⟩
  have H6 := Lib.hid k6
  have H7 := Lib.hid k7
  have H8 := Lib.hid k8
  have KB := Lib.hid kb
  clear k6 k7 k8 kb hb8
  try simp only [Act.put]
  refine region_drew (fun _ => True) (by kernel_rfl) trivial ?_
  intro hT
  have hS : Below X2.heap.size X2 X2.drew := below_drewN (Below.refl _ _) 1
  refine FloatB.float (W := X2) [(0, 28, .is (.agg (nc U))), (1, 29, .is (.agg (nc 1))), (2, 9, .row 24 zn), (3, 10, .row 24 zn)] [0, 1, 2, 3] 2 rfl (by rfl) (by kernel_rfl) (by kernel_rfl) (by kernel_rfl) (by kernel_rfl) (by kernel_rfl) (fun γ δ => rfl) hS (fun _ _ => trivial) (⟨fun _ => undef, trivial⟩) ?_ ?_
  · intro γ δ hgd
    simp only [FloatB.puts, Act.put, List.setIfInBounds_toArray, List.set_cons_zero, List.set_cons_succ]
    refine ⟨?_, ?_, ?_, ?_, trivial⟩
    · exact ⟨_, _, rfl, FloatB.does_take (fun w hw => run_load_op 24 (.tmp 6) rfl b6 rfl (H6.out.below hw H6.out.lt) rfl rfl (by rw [nn_size nU.out]; kernel_rfl))⟩
    · exact ⟨_, _, rfl, FloatB.does_call 25 (#[.int .u32 1]) (by intro w; go_simp; try with_reducible rfl) (fun w hw => RefF.small_any 1 (by omega) w)⟩
    · exact ⟨_, _, rfl, fun w => by go_simp; try rfl⟩
    · exact ⟨_, _, rfl, fun w => by go_simp; try rfl⟩
  · intro γ δ v hS hgd hrows hne
    simp only [FloatB.puts, Act.put, List.setIfInBounds_toArray, List.set_cons_zero, List.set_cons_succ]
    clear hgd
    obtain ⟨⟨hge9, hg9⟩, ⟨hge10, hg10⟩, -⟩ := hrows
    have hne9_10 := hne 2 3 rfl rfl (by decide) (by decide) (by decide)
    clear hne
    generalize γ 2 = b9 at *
    have Hg9 := Lib.hid hg9
    clear hg9
    generalize γ 3 = b10 at *
    have Hg10 := Lib.hid hg10
    clear hg10
    clear γ δ
    have lt_6 := H6.out.lt
    have lt_7 := H7.out.lt
    have lt_8 := H8.out.lt
    replace H6 := Lib.hid (H6.out.below hS lt_6)
    replace H7 := Lib.hid (H7.out.below hS lt_7)
    replace H8 := Lib.hid (H8.out.below hS lt_8)
    replace KB := Lib.hid (KB.out.trans (hS.mono (by omega)))
    refine alone 4 rfl (by kernel_rfl) (by rfl) ?_
    intro K hK
    refine wp_store_row 24 (.tmp 9) (.tmp 28) rfl b9 (nc U) (by rfl) (by rfl) 24 _ Hg9.out (by rw [nn_size nU.out]; kernel_rfl) (by rw [zn_size, nn_size nU.out]) (nn_one nU.out) ?_
    refine hK.out _ _ trivial ?_
    clear hK K
    try simp only [Act.put]
    refine alone 5 rfl (by kernel_rfl) (by rfl) ?_
    intro K hK
    refine wp_store_row 24 (.tmp 10) (.tmp 29) rfl b10 (nc 1) (by rfl) (by rfl) 24 _ (Whole.farRow Hg10.out (g := b9) (by omega) _) (by rw [nn_size n1.out]; kernel_rfl) (by rw [zn_size, nn_size n1.out]) (nn_one n1.out) ?_
    refine hK.out _ _ trivial ?_
    clear hK K
    try simp only [Act.put]
    refine region_end (by kernel_rfl) ?_
    refine cut_post (F := Exit.then _ _) (fun X => RefW w B b6 b7 b8 b9 b10 u (startF u) X ∧ b8 < b9 ∧ b8 < b10) ⟨⟨nc U, nc 1, nc 0, nc U, nc 1, nU.out, n1.out, n0.out, nU.out, n1.out, Whole.farRow (Whole.farRow H6.out (by omega) _) (by omega) _, Whole.farRow (Whole.farRow H7.out (by omega) _) (by omega) _, Whole.farRow (Whole.farRow H8.out (by omega) _) (by omega) _, Whole.farRow (setRow_heap _ _ _ _ _ _ Hg9.out) (by omega) _, setRow_heap _ _ _ _ _ _ (Whole.farRow Hg10.out (g := b9) (by omega) _), below_setRow (below_setRow KB.out (by omega) _) (by omega) _⟩, by omega, by omega⟩ ?_
    clear H6 H7 H8 KB Hg9 Hg10 hge9 hge10 hS hT lt_6 lt_7 lt_8 nU n1 n0
    rintro X3 ⟨hst, o8_9, o8_10⟩
    have HST := Lib.hid hst
    clear hst
    go_wp2_with fail
    go_loopw [11] (fun i wr => ∃ n : Nat, n ≤ 255 ∧ i = .int .i64 (254 - (n : Int)) ∧ RefW w B b6 b7 b8 b9 b10 u (ladF kP u E 255 n) wr) (fun i _ => (intOf i + 1).toNat)
    case atStart => exact ⟨0, by omega, rfl, HST.out⟩
    case round =>
      obtain ⟨n, hn, rfl, c6, c7, c8, c9, c10, m6, m7, m8, m9, m10, k6, k7, k8, k9, k10, kb⟩ := hrel
      by_cases hlt : n < 255
      · obtain ⟨p, hp⟩ : ∃ p, p = 254 - n := ⟨_, rfl⟩
        have hp0 : (0 : Int) ≤ (p : Int) := by omega
        have hcell : w.cell? ⟨kb', p / 8, none⟩ = some (.int .u8 (k (p / 8) : Nat)) := HCELL.out (p / 8) (by omega)
        have hbit := HBIT.out p (by omega)
        have ep := HK.out (p / 8)
        have HAND := Lib.hid (show bits .and .u8 ((k (p / 8) : Int) / 2 ^ (p % 8)) 1 = ((E / 2 ^ p % 2 : Nat) : Int) by
          rw [show ((k (p / 8) : Nat) : Int) / 2 ^ (p % 8) = ((k (p / 8) / 2 ^ (p % 8) : Nat) : Int) by rw [Int.natCast_ediv, Int.natCast_pow]; rfl, and1 _ (Nat.lt_of_le_of_lt (Nat.div_le_self _ _) ep), hbit])
        have HNX0 := Lib.hid (show ladF kP u E 255 (n + 1) = roundF kP u (E / 2 ^ p % 2) (ladF kP u E 255 n) by rw [ladF_next, show 255 - (n + 1) = p by omega])
        have hd2 : E / 2 ^ p % 2 = 0 ∨ E / 2 ^ p % 2 = 1 := by omega
        generalize E / 2 ^ p % 2 = d at HAND HNX0 hd2
        generalize ladF kP u E 255 n = s at m7 m8 m9 m10 HNX0
        obtain ⟨X2, Z2, X3, Z3⟩ := s
        have c1 : wr.cell? ⟨kb', p / 8, none⟩ = some (.int .u8 (k (p / 8) : Nat)) := by
          rw [← hcell]
          exact kb.cell hkb2
        have HPN := Lib.hid (show (254 : Int) - (n : Int) = (p : Int) by omega)
        have hp32 : p / 8 < 32 := by omega
        have hpi : ((p / 8 : Nat) : Int) < 32 := by omega
        have nc6 := Lib.hid m6
        have nc7 := Lib.hid m7
        have nc8 := Lib.hid m8
        have nc9 := Lib.hid m9
        have nc10 := Lib.hid m10
        have H6 := Lib.hid k6
        have H7 := Lib.hid k7
        have H8 := Lib.hid k8
        have H9 := Lib.hid k9
        have H10 := Lib.hid k10
        have KB := Lib.hid kb
        have hV : B ≤ wr.heap.size := by rw [← hB]; exact kb.size
        have HP := Lib.hid hp
        clear hp hcell hbit m6 m7 m8 m9 m10 k6 k7 k8 k9 k10 kb HST
        rw [HPN.out]
        go_upto_region 9 with fail
        have lo7 : B ≤ b7 := by omega
        have lo8 : B ≤ b8 := by omega
        have lo9 : B ≤ b9 := by omega
        have lo10 : B ≤ b10 := by omega
        rw [HAND.out]
        clear c1 HAND
        rcases hd2 with rfl | rfl
        · have HNX := Lib.hid HNX0.out
          clear HNX0
          go_wp2_with (first | (refine wpList_load_row rfl 24 (.tmp 7) rfl b7 rfl 24 c7 (0, 0) _ H7.out rfl rfl (by rw [nn_size nc7.out]; kernel_rfl) ?_) | (refine wpList_load_row rfl 24 (.tmp 8) rfl b8 rfl 24 c8 (0, 0) _ H8.out rfl rfl (by rw [nn_size nc8.out]; kernel_rfl) ?_))
          refine (addN (isN nc7.out) (isN nc8.out) _).mono ?_
          rintro e z1 ⟨_, rfl, ⟨ca, hn, rfl⟩, hb⟩
          have nca := Lib.hid hn
          clear hn
          have lt_6 := H6.out.lt
          replace H6 := Lib.hid (H6.out.below hb lt_6)
          have lt_7 := H7.out.lt
          replace H7 := Lib.hid (H7.out.below hb lt_7)
          have lt_8 := H8.out.lt
          replace H8 := Lib.hid (H8.out.below hb lt_8)
          have lt_9 := H9.out.lt
          replace H9 := Lib.hid (H9.out.below hb lt_9)
          have lt_10 := H10.out.lt
          replace H10 := Lib.hid (H10.out.below hb lt_10)
          have hsz := hb.size
          replace KB := Lib.hid (KB.out.trans (hb.mono (by omega)))
          clear hb
          go_upto_region 12 with (refine wpList_store_row rfl 24 (.tmp 13) (.tmp 51) rfl z1.heap.size ca rfl rfl 24 _ (Whole.new _ _ _) (by rw [nn_size nca.out]; kernel_rfl) (by rw [nn_size nca.out]; rfl) (nn_one nca.out) ?_)
          refine cut_world (fun X => Whole X b6 24 c6 ∧ Whole X b7 24 c7 ∧ Whole X b8 24 c8 ∧ Whole X b9 24 c9 ∧ Whole X b10 24 c10 ∧ Whole X z1.heap.size 24 ca ∧ Below B w X ∧ B ≤ X.heap.size ∧ b6 < z1.heap.size ∧ b7 < z1.heap.size ∧ b8 < z1.heap.size ∧ b9 < z1.heap.size ∧ b10 < z1.heap.size) ⟨Whole.farRow (H6.out.alloc _) (by omega) _, Whole.farRow (H7.out.alloc _) (by omega) _, Whole.farRow (H8.out.alloc _) (by omega) _, Whole.farRow (H9.out.alloc _) (by omega) _, Whole.farRow (H10.out.alloc _) (by omega) _, setRow_heap _ _ _ _ _ _ (Whole.new _ _ _), below_setRow (KB.out.alloc (by omega) _) (by omega) _, le_heap (setRow_heap _ _ _ _ _ _ (Whole.new _ _ _)) (by omega), by omega, by omega, by omega, by omega, by omega⟩ ?_
          clear KB hsz H6 H7 H8 H9 H10 lt_6 lt_7 lt_8 lt_9 lt_10
          generalize z1.heap.size = b13
          rintro y1 ⟨k6, k7, k8, k9, k10, k13, kb, hV, o6_13, o7_13, o8_13, o9_13, o10_13⟩
          have H6 := Lib.hid k6
          have H7 := Lib.hid k7
          have H8 := Lib.hid k8
          have H9 := Lib.hid k9
          have H10 := Lib.hid k10
          have H13 := Lib.hid k13
          have KB := Lib.hid kb
          clear kb k6 k7 k8 k9 k10 k13
          go_wp2_with (first | (refine wpList_load_row rfl 24 (.tmp 7) rfl b7 rfl 24 c7 (0, 0) _ H7.out rfl rfl (by rw [nn_size nc7.out]; kernel_rfl) ?_) | (refine wpList_load_row rfl 24 (.tmp 8) rfl b8 rfl 24 c8 (0, 0) _ H8.out rfl rfl (by rw [nn_size nc8.out]; kernel_rfl) ?_))
          refine (subN (isN nc7.out) (isN nc8.out) _).mono ?_
          rintro e z2 ⟨_, rfl, ⟨cb, hn, rfl⟩, hb⟩
          have ncb := Lib.hid hn
          clear hn
          have lt_6 := H6.out.lt
          replace H6 := Lib.hid (H6.out.below hb lt_6)
          have lt_7 := H7.out.lt
          replace H7 := Lib.hid (H7.out.below hb lt_7)
          have lt_8 := H8.out.lt
          replace H8 := Lib.hid (H8.out.below hb lt_8)
          have lt_9 := H9.out.lt
          replace H9 := Lib.hid (H9.out.below hb lt_9)
          have lt_10 := H10.out.lt
          replace H10 := Lib.hid (H10.out.below hb lt_10)
          have lt_13 := H13.out.lt
          replace H13 := Lib.hid (H13.out.below hb lt_13)
          have hsz := hb.size
          replace KB := Lib.hid (KB.out.trans (hb.mono (by omega)))
          clear hb
          go_upto_region 13 with (refine wpList_store_row rfl 24 (.tmp 14) (.tmp 54) rfl z2.heap.size cb rfl rfl 24 _ (Whole.new _ _ _) (by rw [nn_size ncb.out]; kernel_rfl) (by rw [nn_size ncb.out]; rfl) (nn_one ncb.out) ?_)
          refine cut_world (fun X => Whole X b6 24 c6 ∧ Whole X b7 24 c7 ∧ Whole X b8 24 c8 ∧ Whole X b9 24 c9 ∧ Whole X b10 24 c10 ∧ Whole X b13 24 ca ∧ Whole X z2.heap.size 24 cb ∧ Below B w X ∧ B ≤ X.heap.size ∧ b6 < z2.heap.size ∧ b7 < z2.heap.size ∧ b8 < z2.heap.size ∧ b9 < z2.heap.size ∧ b10 < z2.heap.size) ⟨Whole.farRow (H6.out.alloc _) (by omega) _, Whole.farRow (H7.out.alloc _) (by omega) _, Whole.farRow (H8.out.alloc _) (by omega) _, Whole.farRow (H9.out.alloc _) (by omega) _, Whole.farRow (H10.out.alloc _) (by omega) _, Whole.farRow (H13.out.alloc _) (by omega) _, setRow_heap _ _ _ _ _ _ (Whole.new _ _ _), below_setRow (KB.out.alloc (by omega) _) (by omega) _, le_heap (setRow_heap _ _ _ _ _ _ (Whole.new _ _ _)) (by omega), by omega, by omega, by omega, by omega, by omega⟩ ?_
          clear KB hsz H6 H7 H8 H9 H10 H13 lt_6 lt_7 lt_8 lt_9 lt_10 lt_13
          generalize z2.heap.size = b14
          rintro y2 ⟨k6, k7, k8, k9, k10, k13, k14, kb, hV, o6_14, o7_14, o8_14, o9_14, o10_14⟩
          have H6 := Lib.hid k6
          have H7 := Lib.hid k7
          have H8 := Lib.hid k8
          have H9 := Lib.hid k9
          have H10 := Lib.hid k10
          have H13 := Lib.hid k13
          have H14 := Lib.hid k14
          have KB := Lib.hid kb
          clear kb k6 k7 k8 k9 k10 k13 k14
          refine region_drew (fun _ => True) (by kernel_rfl) trivial ?_
          intro hT
          have hS : Below y2.heap.size y2 y2.drew := below_drewN (Below.refl _ _) 1
          refine FloatB.float (W := y2) [(0, 55, .is (.agg c9)), (1, 56, .is (.agg c10)), (2, 57, .some (IsN ((X3 - Z3)))), (3, 58, .is (.agg ca)), (4, 59, .some (IsN (((X3 - Z3) * (X2 + Z2))))), (5, 15, .row 24 zn)] [0, 1, 2, 3, 4, 5] 1 rfl (by rfl) (by kernel_rfl) (by kernel_rfl) (by kernel_rfl) (by kernel_rfl) (by kernel_rfl) (fun γ δ => rfl) hS (fun _ _ => trivial) (⟨fun i => match i with | 2 => .agg (nc ((X3 - Z3)).val) | 4 => .agg (nc (((X3 - Z3) * (X2 + Z2))).val) | _ => undef, isN_self _, isN_self _, trivial⟩) ?_ ?_
          · intro γ δ hgd
            simp only [FloatB.puts, Act.put, List.setIfInBounds_toArray, List.set_cons_zero, List.set_cons_succ]
            obtain ⟨hg2, hg4, -⟩ := hgd
            refine ⟨?_, ?_, ?_, ?_, ?_, ?_, trivial⟩
            · exact ⟨_, _, rfl, FloatB.does_take (fun w hw => run_load_op 24 (.tmp 9) rfl b9 rfl (H9.out.below hw H9.out.lt) rfl rfl (by rw [nn_size nc9.out]; kernel_rfl))⟩
            · exact ⟨_, _, rfl, FloatB.does_take (fun w hw => run_load_op 24 (.tmp 10) rfl b10 rfl (H10.out.below hw H10.out.lt) rfl rfl (by rw [nn_size nc10.out]; kernel_rfl))⟩
            · exact ⟨_, _, rfl, FloatB.does_some 17 (#[(.agg c9), (.agg c10)]) (by intro w; go_simp; try with_reducible rfl) (fun w hw => subN (isN nc9.out) (isN nc10.out) w)⟩
            · exact ⟨_, _, rfl, FloatB.does_take (fun w hw => run_load_op 24 (.tmp 13) rfl b13 rfl (H13.out.below hw H13.out.lt) rfl rfl (by rw [nn_size nca.out]; kernel_rfl))⟩
            · exact ⟨_, _, rfl, FloatB.does_some 23 (#[(δ 2), (.agg ca)]) (by intro w; go_simp; try with_reducible rfl) (fun w hw => mulN' hg2 (isN nca.out) w)⟩
            · exact ⟨_, _, rfl, fun w => by go_simp; try rfl⟩
          · intro γ δ v hS hgd hrows hne
            simp only [FloatB.puts, Act.put, List.setIfInBounds_toArray, List.set_cons_zero, List.set_cons_succ]
            obtain ⟨hg2, hg4, -⟩ := hgd
            obtain ⟨⟨hge15, hr15⟩, -⟩ := hrows
            clear hne
            generalize γ 5 = b15 at *
            have G15 := Lib.hid hr15
            clear hr15
            generalize δ 2 = dv2 at *
            obtain ⟨cd, hncd, rfl⟩ := hg2
            have ncd := Lib.hid hncd
            clear hncd
            generalize δ 4 = dv4 at *
            obtain ⟨cda, hncda, rfl⟩ := hg4
            have ncda := Lib.hid hncda
            clear hncda
            clear γ δ
            have lt_6 := H6.out.lt
            replace H6 := Lib.hid (H6.out.below hS lt_6)
            have lt_7 := H7.out.lt
            replace H7 := Lib.hid (H7.out.below hS lt_7)
            have lt_8 := H8.out.lt
            replace H8 := Lib.hid (H8.out.below hS lt_8)
            have lt_9 := H9.out.lt
            replace H9 := Lib.hid (H9.out.below hS lt_9)
            have lt_10 := H10.out.lt
            replace H10 := Lib.hid (H10.out.below hS lt_10)
            have lt_13 := H13.out.lt
            replace H13 := Lib.hid (H13.out.below hS lt_13)
            have lt_14 := H14.out.lt
            replace H14 := Lib.hid (H14.out.below hS lt_14)
            replace KB := Lib.hid (KB.out.trans (hS.mono (by omega)))
            have o6_15 : b6 < b15 := by omega
            have o7_15 : b7 < b15 := by omega
            have o8_15 : b8 < b15 := by omega
            have o9_15 : b9 < b15 := by omega
            have o10_15 : b10 < b15 := by omega
            refine alone 6 rfl (by kernel_rfl) (by rfl) ?_
            intro K hK
            refine wp_store_row 24 (.tmp 15) (.tmp 59) rfl b15 cda (by rfl) (by rfl) 24 _ G15.out (by rw [nn_size ncda.out]; kernel_rfl) (by rw [zn_size, nn_size ncda.out]) (nn_one ncda.out) ?_
            refine hK.out _ _ trivial ?_
            clear hK K
            try simp only [Act.put]
            replace H6 := Lib.hid (Whole.farRow H6.out (g := b15) (by omega) cda)
            replace H7 := Lib.hid (Whole.farRow H7.out (g := b15) (by omega) cda)
            replace H8 := Lib.hid (Whole.farRow H8.out (g := b15) (by omega) cda)
            replace H9 := Lib.hid (Whole.farRow H9.out (g := b15) (by omega) cda)
            replace H10 := Lib.hid (Whole.farRow H10.out (g := b15) (by omega) cda)
            replace H13 := Lib.hid (Whole.farRow H13.out (g := b15) (by omega) cda)
            replace H14 := Lib.hid (Whole.farRow H14.out (g := b15) (by omega) cda)
            replace KB := Lib.hid (below_setRow KB.out (by omega) (g := b15) cda)
            have H15 := Lib.hid (setRow_heap _ _ _ cda _ _ G15.out)
            clear G15
            refine region_end (by kernel_rfl) ?_
            first | (refine cut_post (F := Exit.then _ _) (fun X => Whole X b6 24 c6 ∧ Whole X b7 24 c7 ∧ Whole X b8 24 c8 ∧ Whole X b9 24 c9 ∧ Whole X b10 24 c10 ∧ Whole X b13 24 ca ∧ Whole X b14 24 cb ∧ Whole X b15 24 cda ∧ Below B w X ∧ B ≤ X.heap.size) ⟨H6.out, H7.out, H8.out, H9.out, H10.out, H13.out, H14.out, H15.out, KB.out, le_heap H6.out lo6⟩ ?_) | (refine cut_post (F := Exit.inBlock _ _) (fun X => Whole X b6 24 c6 ∧ Whole X b7 24 c7 ∧ Whole X b8 24 c8 ∧ Whole X b9 24 c9 ∧ Whole X b10 24 c10 ∧ Whole X b13 24 ca ∧ Whole X b14 24 cb ∧ Whole X b15 24 cda ∧ Below B w X ∧ B ≤ X.heap.size) ⟨H6.out, H7.out, H8.out, H9.out, H10.out, H13.out, H14.out, H15.out, KB.out, le_heap H6.out lo6⟩ ?_)
            clear KB H6 H7 H8 H9 H10 H13 H14 H15 hS hT lt_6 lt_7 lt_8 lt_9 lt_10 lt_13 lt_14 hge15
            rintro yy3 ⟨k6, k7, k8, k9, k10, k13, k14, k15, kb, hV⟩
            have H6 := Lib.hid k6
            have H7 := Lib.hid k7
            have H8 := Lib.hid k8
            have H9 := Lib.hid k9
            have H10 := Lib.hid k10
            have H13 := Lib.hid k13
            have H14 := Lib.hid k14
            have H15 := Lib.hid k15
            have KB := Lib.hid kb
            clear kb k6 k7 k8 k9 k10 k13 k14 k15
            go_wp2_with fail
            refine region_drew (fun _ => True) (by kernel_rfl) trivial ?_
            intro hT
            have hS : Below yy3.heap.size yy3 yy3.drew := below_drewN (Below.refl _ _) 1
            refine FloatB.float (W := yy3) [(0, 60, .is (.agg c9)), (1, 61, .is (.agg c10)), (2, 62, .some (IsN ((X3 + Z3)))), (3, 63, .is (.agg cb)), (4, 64, .some (IsN (((X3 + Z3) * (X2 - Z2))))), (5, 16, .row 24 zn)] [0, 1, 2, 3, 4, 5] 1 rfl (by rfl) (by kernel_rfl) (by kernel_rfl) (by kernel_rfl) (by kernel_rfl) (by kernel_rfl) (fun γ δ => rfl) hS (fun _ _ => trivial) (⟨fun i => match i with | 2 => .agg (nc ((X3 + Z3)).val) | 4 => .agg (nc (((X3 + Z3) * (X2 - Z2))).val) | _ => undef, isN_self _, isN_self _, trivial⟩) ?_ ?_
            · intro γ δ hgd
              simp only [FloatB.puts, Act.put, List.setIfInBounds_toArray, List.set_cons_zero, List.set_cons_succ]
              obtain ⟨hg2, hg4, -⟩ := hgd
              refine ⟨?_, ?_, ?_, ?_, ?_, ?_, trivial⟩
              · exact ⟨_, _, rfl, FloatB.does_take (fun w hw => run_load_op 24 (.tmp 9) rfl b9 rfl (H9.out.below hw H9.out.lt) rfl rfl (by rw [nn_size nc9.out]; kernel_rfl))⟩
              · exact ⟨_, _, rfl, FloatB.does_take (fun w hw => run_load_op 24 (.tmp 10) rfl b10 rfl (H10.out.below hw H10.out.lt) rfl rfl (by rw [nn_size nc10.out]; kernel_rfl))⟩
              · exact ⟨_, _, rfl, FloatB.does_some 16 (#[(.agg c9), (.agg c10)]) (by intro w; go_simp; try with_reducible rfl) (fun w hw => addN (isN nc9.out) (isN nc10.out) w)⟩
              · exact ⟨_, _, rfl, FloatB.does_take (fun w hw => run_load_op 24 (.tmp 14) rfl b14 rfl (H14.out.below hw H14.out.lt) rfl rfl (by rw [nn_size ncb.out]; kernel_rfl))⟩
              · exact ⟨_, _, rfl, FloatB.does_some 23 (#[(δ 2), (.agg cb)]) (by intro w; go_simp; try with_reducible rfl) (fun w hw => mulN' hg2 (isN ncb.out) w)⟩
              · exact ⟨_, _, rfl, fun w => by go_simp; try rfl⟩
            · intro γ δ v hS hgd hrows hne
              simp only [FloatB.puts, Act.put, List.setIfInBounds_toArray, List.set_cons_zero, List.set_cons_succ]
              obtain ⟨hg2, hg4, -⟩ := hgd
              obtain ⟨⟨hge16, hr16⟩, -⟩ := hrows
              clear hne
              generalize γ 5 = b16 at *
              have G16 := Lib.hid hr16
              clear hr16
              generalize δ 2 = dv2 at *
              obtain ⟨cc, hncc, rfl⟩ := hg2
              have ncc := Lib.hid hncc
              clear hncc
              generalize δ 4 = dv4 at *
              obtain ⟨ccb, hnccb, rfl⟩ := hg4
              have nccb := Lib.hid hnccb
              clear hnccb
              clear γ δ
              have lt_6 := H6.out.lt
              replace H6 := Lib.hid (H6.out.below hS lt_6)
              have lt_7 := H7.out.lt
              replace H7 := Lib.hid (H7.out.below hS lt_7)
              have lt_8 := H8.out.lt
              replace H8 := Lib.hid (H8.out.below hS lt_8)
              have lt_9 := H9.out.lt
              replace H9 := Lib.hid (H9.out.below hS lt_9)
              have lt_10 := H10.out.lt
              replace H10 := Lib.hid (H10.out.below hS lt_10)
              have lt_13 := H13.out.lt
              replace H13 := Lib.hid (H13.out.below hS lt_13)
              have lt_14 := H14.out.lt
              replace H14 := Lib.hid (H14.out.below hS lt_14)
              have lt_15 := H15.out.lt
              replace H15 := Lib.hid (H15.out.below hS lt_15)
              replace KB := Lib.hid (KB.out.trans (hS.mono (by omega)))
              have o6_16 : b6 < b16 := by omega
              have o7_16 : b7 < b16 := by omega
              have o8_16 : b8 < b16 := by omega
              have o9_16 : b9 < b16 := by omega
              have o10_16 : b10 < b16 := by omega
              refine alone 6 rfl (by kernel_rfl) (by rfl) ?_
              intro K hK
              refine wp_store_row 24 (.tmp 16) (.tmp 64) rfl b16 ccb (by rfl) (by rfl) 24 _ G16.out (by rw [nn_size nccb.out]; kernel_rfl) (by rw [zn_size, nn_size nccb.out]) (nn_one nccb.out) ?_
              refine hK.out _ _ trivial ?_
              clear hK K
              try simp only [Act.put]
              replace H6 := Lib.hid (Whole.farRow H6.out (g := b16) (by omega) ccb)
              replace H7 := Lib.hid (Whole.farRow H7.out (g := b16) (by omega) ccb)
              replace H8 := Lib.hid (Whole.farRow H8.out (g := b16) (by omega) ccb)
              replace H9 := Lib.hid (Whole.farRow H9.out (g := b16) (by omega) ccb)
              replace H10 := Lib.hid (Whole.farRow H10.out (g := b16) (by omega) ccb)
              replace H13 := Lib.hid (Whole.farRow H13.out (g := b16) (by omega) ccb)
              replace H14 := Lib.hid (Whole.farRow H14.out (g := b16) (by omega) ccb)
              replace H15 := Lib.hid (Whole.farRow H15.out (g := b16) (by omega) ccb)
              replace KB := Lib.hid (below_setRow KB.out (by omega) (g := b16) ccb)
              have H16 := Lib.hid (setRow_heap _ _ _ ccb _ _ G16.out)
              clear G16
              refine region_end (by kernel_rfl) ?_
              first | (refine cut_post (F := Exit.then _ _) (fun X => Whole X b6 24 c6 ∧ Whole X b7 24 c7 ∧ Whole X b8 24 c8 ∧ Whole X b9 24 c9 ∧ Whole X b10 24 c10 ∧ Whole X b13 24 ca ∧ Whole X b14 24 cb ∧ Whole X b15 24 cda ∧ Whole X b16 24 ccb ∧ Below B w X ∧ B ≤ X.heap.size) ⟨H6.out, H7.out, H8.out, H9.out, H10.out, H13.out, H14.out, H15.out, H16.out, KB.out, le_heap H6.out lo6⟩ ?_) | (refine cut_post (F := Exit.inBlock _ _) (fun X => Whole X b6 24 c6 ∧ Whole X b7 24 c7 ∧ Whole X b8 24 c8 ∧ Whole X b9 24 c9 ∧ Whole X b10 24 c10 ∧ Whole X b13 24 ca ∧ Whole X b14 24 cb ∧ Whole X b15 24 cda ∧ Whole X b16 24 ccb ∧ Below B w X ∧ B ≤ X.heap.size) ⟨H6.out, H7.out, H8.out, H9.out, H10.out, H13.out, H14.out, H15.out, H16.out, KB.out, le_heap H6.out lo6⟩ ?_)
              clear KB H6 H7 H8 H9 H10 H13 H14 H15 H16 hS hT lt_6 lt_7 lt_8 lt_9 lt_10 lt_13 lt_14 lt_15 hge16
              rintro yy4 ⟨k6, k7, k8, k9, k10, k13, k14, k15, k16, kb, hV⟩
              have H6 := Lib.hid k6
              have H7 := Lib.hid k7
              have H8 := Lib.hid k8
              have H9 := Lib.hid k9
              have H10 := Lib.hid k10
              have H13 := Lib.hid k13
              have H14 := Lib.hid k14
              have H15 := Lib.hid k15
              have H16 := Lib.hid k16
              have KB := Lib.hid kb
              clear kb k6 k7 k8 k9 k10 k13 k14 k15 k16
              go_wp2_with fail
              refine region_drew (fun _ => True) (by kernel_rfl) trivial ?_
              intro hT
              have hS : Below yy4.heap.size yy4 yy4.drew := below_drewN (Below.refl _ _) 1
              refine FloatB.float (W := yy4) [(0, 65, .is (.agg cda)), (1, 66, .is (.agg ccb)), (2, 67, .some (IsN ((((X3 - Z3) * (X2 + Z2)) + ((X3 + Z3) * (X2 - Z2)))))), (3, 68, .is (.agg cda)), (4, 69, .is (.agg ccb)), (5, 70, .some (IsN ((((X3 - Z3) * (X2 + Z2)) - ((X3 + Z3) * (X2 - Z2)))))), (6, 17, .row 24 zn), (7, 18, .row 24 zn)] [0, 1, 2, 3, 4, 5, 6, 7] 2 rfl (by rfl) (by kernel_rfl) (by kernel_rfl) (by kernel_rfl) (by kernel_rfl) (by kernel_rfl) (fun γ δ => rfl) hS (fun _ _ => trivial) (⟨fun i => match i with | 2 => .agg (nc ((((X3 - Z3) * (X2 + Z2)) + ((X3 + Z3) * (X2 - Z2)))).val) | 5 => .agg (nc ((((X3 - Z3) * (X2 + Z2)) - ((X3 + Z3) * (X2 - Z2)))).val) | _ => undef, isN_self _, isN_self _, trivial⟩) ?_ ?_
              · intro γ δ hgd
                simp only [FloatB.puts, Act.put, List.setIfInBounds_toArray, List.set_cons_zero, List.set_cons_succ]
                obtain ⟨hg2, hg5, -⟩ := hgd
                refine ⟨?_, ?_, ?_, ?_, ?_, ?_, ?_, ?_, trivial⟩
                · exact ⟨_, _, rfl, FloatB.does_take (fun w hw => run_load_op 24 (.tmp 15) rfl b15 rfl (H15.out.below hw H15.out.lt) rfl rfl (by rw [nn_size ncda.out]; kernel_rfl))⟩
                · exact ⟨_, _, rfl, FloatB.does_take (fun w hw => run_load_op 24 (.tmp 16) rfl b16 rfl (H16.out.below hw H16.out.lt) rfl rfl (by rw [nn_size nccb.out]; kernel_rfl))⟩
                · exact ⟨_, _, rfl, FloatB.does_some 16 (#[(.agg cda), (.agg ccb)]) (by intro w; go_simp; try with_reducible rfl) (fun w hw => addN (isN ncda.out) (isN nccb.out) w)⟩
                · exact ⟨_, _, rfl, FloatB.does_take (fun w hw => run_load_op 24 (.tmp 15) rfl b15 rfl (H15.out.below hw H15.out.lt) rfl rfl (by rw [nn_size ncda.out]; kernel_rfl))⟩
                · exact ⟨_, _, rfl, FloatB.does_take (fun w hw => run_load_op 24 (.tmp 16) rfl b16 rfl (H16.out.below hw H16.out.lt) rfl rfl (by rw [nn_size nccb.out]; kernel_rfl))⟩
                · exact ⟨_, _, rfl, FloatB.does_some 17 (#[(.agg cda), (.agg ccb)]) (by intro w; go_simp; try with_reducible rfl) (fun w hw => subN (isN ncda.out) (isN nccb.out) w)⟩
                · exact ⟨_, _, rfl, fun w => by go_simp; try rfl⟩
                · exact ⟨_, _, rfl, fun w => by go_simp; try rfl⟩
              · intro γ δ v hS hgd hrows hne
                simp only [FloatB.puts, Act.put, List.setIfInBounds_toArray, List.set_cons_zero, List.set_cons_succ]
                obtain ⟨hg2, hg5, -⟩ := hgd
                obtain ⟨⟨hge17, hr17⟩, ⟨hge18, hr18⟩, -⟩ := hrows
                have hne17_18 := hne 6 7 rfl rfl (by decide) (by decide) (by decide)
                clear hne
                generalize γ 6 = b17 at *
                have G17 := Lib.hid hr17
                clear hr17
                generalize γ 7 = b18 at *
                have G18 := Lib.hid hr18
                clear hr18
                generalize δ 2 = dv2 at *
                obtain ⟨cs, hncs, rfl⟩ := hg2
                have ncs := Lib.hid hncs
                clear hncs
                generalize δ 5 = dv5 at *
                obtain ⟨ct, hnct, rfl⟩ := hg5
                have nct := Lib.hid hnct
                clear hnct
                clear γ δ
                have lt_6 := H6.out.lt
                replace H6 := Lib.hid (H6.out.below hS lt_6)
                have lt_7 := H7.out.lt
                replace H7 := Lib.hid (H7.out.below hS lt_7)
                have lt_8 := H8.out.lt
                replace H8 := Lib.hid (H8.out.below hS lt_8)
                have lt_9 := H9.out.lt
                replace H9 := Lib.hid (H9.out.below hS lt_9)
                have lt_10 := H10.out.lt
                replace H10 := Lib.hid (H10.out.below hS lt_10)
                have lt_13 := H13.out.lt
                replace H13 := Lib.hid (H13.out.below hS lt_13)
                have lt_14 := H14.out.lt
                replace H14 := Lib.hid (H14.out.below hS lt_14)
                have lt_15 := H15.out.lt
                replace H15 := Lib.hid (H15.out.below hS lt_15)
                have lt_16 := H16.out.lt
                replace H16 := Lib.hid (H16.out.below hS lt_16)
                replace KB := Lib.hid (KB.out.trans (hS.mono (by omega)))
                have o6_17 : b6 < b17 := by omega
                have o7_17 : b7 < b17 := by omega
                have o8_17 : b8 < b17 := by omega
                have o9_17 : b9 < b17 := by omega
                have o10_17 : b10 < b17 := by omega
                have o6_18 : b6 < b18 := by omega
                have o7_18 : b7 < b18 := by omega
                have o8_18 : b8 < b18 := by omega
                have o9_18 : b9 < b18 := by omega
                have o10_18 : b10 < b18 := by omega
                refine alone 8 rfl (by kernel_rfl) (by rfl) ?_
                intro K hK
                refine wp_store_row 24 (.tmp 17) (.tmp 67) rfl b17 cs (by rfl) (by rfl) 24 _ G17.out (by rw [nn_size ncs.out]; kernel_rfl) (by rw [zn_size, nn_size ncs.out]) (nn_one ncs.out) ?_
                refine hK.out _ _ trivial ?_
                clear hK K
                try simp only [Act.put]
                replace H6 := Lib.hid (Whole.farRow H6.out (g := b17) (by omega) cs)
                replace H7 := Lib.hid (Whole.farRow H7.out (g := b17) (by omega) cs)
                replace H8 := Lib.hid (Whole.farRow H8.out (g := b17) (by omega) cs)
                replace H9 := Lib.hid (Whole.farRow H9.out (g := b17) (by omega) cs)
                replace H10 := Lib.hid (Whole.farRow H10.out (g := b17) (by omega) cs)
                replace H13 := Lib.hid (Whole.farRow H13.out (g := b17) (by omega) cs)
                replace H14 := Lib.hid (Whole.farRow H14.out (g := b17) (by omega) cs)
                replace G18 := Lib.hid (Whole.farRow G18.out (g := b17) (by omega) cs)
                replace KB := Lib.hid (below_setRow KB.out (by omega) (g := b17) cs)
                have H17 := Lib.hid (setRow_heap _ _ _ cs _ _ G17.out)
                clear G17
                refine alone 9 rfl (by kernel_rfl) (by rfl) ?_
                intro K hK
                refine wp_store_row 24 (.tmp 18) (.tmp 70) rfl b18 ct (by rfl) (by rfl) 24 _ G18.out (by rw [nn_size nct.out]; kernel_rfl) (by rw [zn_size, nn_size nct.out]) (nn_one nct.out) ?_
                refine hK.out _ _ trivial ?_
                clear hK K
                try simp only [Act.put]
                replace H6 := Lib.hid (Whole.farRow H6.out (g := b18) (by omega) ct)
                replace H7 := Lib.hid (Whole.farRow H7.out (g := b18) (by omega) ct)
                replace H8 := Lib.hid (Whole.farRow H8.out (g := b18) (by omega) ct)
                replace H9 := Lib.hid (Whole.farRow H9.out (g := b18) (by omega) ct)
                replace H10 := Lib.hid (Whole.farRow H10.out (g := b18) (by omega) ct)
                replace H13 := Lib.hid (Whole.farRow H13.out (g := b18) (by omega) ct)
                replace H14 := Lib.hid (Whole.farRow H14.out (g := b18) (by omega) ct)
                replace H17 := Lib.hid (Whole.farRow H17.out (g := b18) (by omega) ct)
                replace KB := Lib.hid (below_setRow KB.out (by omega) (g := b18) ct)
                have H18 := Lib.hid (setRow_heap _ _ _ ct _ _ G18.out)
                clear G18
                refine region_end (by kernel_rfl) ?_
                clear H15
                clear H16
                first | (refine cut_post (F := Exit.then _ _) (fun X => Whole X b6 24 c6 ∧ Whole X b7 24 c7 ∧ Whole X b8 24 c8 ∧ Whole X b9 24 c9 ∧ Whole X b10 24 c10 ∧ Whole X b13 24 ca ∧ Whole X b14 24 cb ∧ Whole X b17 24 cs ∧ Whole X b18 24 ct ∧ Below B w X ∧ B ≤ X.heap.size) ⟨H6.out, H7.out, H8.out, H9.out, H10.out, H13.out, H14.out, H17.out, H18.out, KB.out, le_heap H6.out lo6⟩ ?_) | (refine cut_post (F := Exit.inBlock _ _) (fun X => Whole X b6 24 c6 ∧ Whole X b7 24 c7 ∧ Whole X b8 24 c8 ∧ Whole X b9 24 c9 ∧ Whole X b10 24 c10 ∧ Whole X b13 24 ca ∧ Whole X b14 24 cb ∧ Whole X b17 24 cs ∧ Whole X b18 24 ct ∧ Below B w X ∧ B ≤ X.heap.size) ⟨H6.out, H7.out, H8.out, H9.out, H10.out, H13.out, H14.out, H17.out, H18.out, KB.out, le_heap H6.out lo6⟩ ?_)
                clear KB H6 H7 H8 H9 H10 H13 H14 H17 H18 hS hT lt_6 lt_7 lt_8 lt_9 lt_10 lt_13 lt_14 lt_15 lt_16 hge17 hge18
                rintro yy5 ⟨k6, k7, k8, k9, k10, k13, k14, k17, k18, kb, hV⟩
                have H6 := Lib.hid k6
                have H7 := Lib.hid k7
                have H8 := Lib.hid k8
                have H9 := Lib.hid k9
                have H10 := Lib.hid k10
                have H13 := Lib.hid k13
                have H14 := Lib.hid k14
                have H17 := Lib.hid k17
                have H18 := Lib.hid k18
                have KB := Lib.hid kb
                clear kb k6 k7 k8 k9 k10 k13 k14 k17 k18
                go_wp2_with (first | (refine wpList_load_row rfl 24 (.tmp 17) rfl b17 rfl 24 cs (0, 0) _ H17.out rfl rfl (by rw [nn_size ncs.out]; kernel_rfl) ?_) | (refine wpList_load_row rfl 24 (.tmp 17) rfl b17 rfl 24 cs (0, 0) _ H17.out rfl rfl (by rw [nn_size ncs.out]; kernel_rfl) ?_))
                refine (mulN' (isN ncs.out) (isN ncs.out) _).mono ?_
                rintro e z6 ⟨_, rfl, ⟨n9, hn, rfl⟩, hb⟩
                have nn9 := Lib.hid hn
                clear hn
                have lt_6 := H6.out.lt
                replace H6 := Lib.hid (H6.out.below hb lt_6)
                have lt_7 := H7.out.lt
                replace H7 := Lib.hid (H7.out.below hb lt_7)
                have lt_8 := H8.out.lt
                replace H8 := Lib.hid (H8.out.below hb lt_8)
                have lt_9 := H9.out.lt
                replace H9 := Lib.hid (H9.out.below hb lt_9)
                have lt_10 := H10.out.lt
                replace H10 := Lib.hid (H10.out.below hb lt_10)
                have lt_13 := H13.out.lt
                replace H13 := Lib.hid (H13.out.below hb lt_13)
                have lt_14 := H14.out.lt
                replace H14 := Lib.hid (H14.out.below hb lt_14)
                have lt_17 := H17.out.lt
                replace H17 := Lib.hid (H17.out.below hb lt_17)
                have lt_18 := H18.out.lt
                replace H18 := Lib.hid (H18.out.below hb lt_18)
                have hsz := hb.size
                replace KB := Lib.hid (KB.out.trans (hb.mono (by omega)))
                clear hb
                go_upto_region 17 with (refine wpList_store_row rfl 24 (.tmp 9) (.tmp 73) rfl b9 n9 rfl rfl 24 _ H9.out (by rw [nn_size nn9.out]; kernel_rfl) (by rw [nn_size nc9.out, nn_size nn9.out]) (nn_one nn9.out) ?_)
                refine cut_world (fun X => Whole X b6 24 c6 ∧ Whole X b7 24 c7 ∧ Whole X b8 24 c8 ∧ Whole X b10 24 c10 ∧ Whole X b13 24 ca ∧ Whole X b14 24 cb ∧ Whole X b18 24 ct ∧ Whole X b9 24 n9 ∧ Below B w X ∧ B ≤ X.heap.size) ⟨Whole.farRow H6.out (by omega) _, Whole.farRow H7.out (by omega) _, Whole.farRow H8.out (by omega) _, Whole.farRow H10.out (by omega) _, Whole.farRow H13.out (by omega) _, Whole.farRow H14.out (by omega) _, Whole.farRow H18.out (by omega) _, setRow_heap _ _ _ _ _ _ H9.out, below_setRow KB.out (by omega) _, le_heap (setRow_heap _ _ _ n9 _ _ H9.out) lo9⟩ ?_
                clear KB hsz H6 H7 H8 H9 H10 H13 H14 H17 H18 lt_6 lt_7 lt_8 lt_9 lt_10 lt_13 lt_14 lt_17 lt_18
                rintro y6 ⟨k6, k7, k8, k10, k13, k14, k18, k9, kb, hV⟩
                have H6 := Lib.hid k6
                have H7 := Lib.hid k7
                have H8 := Lib.hid k8
                have H10 := Lib.hid k10
                have H13 := Lib.hid k13
                have H14 := Lib.hid k14
                have H18 := Lib.hid k18
                have H9 := Lib.hid k9
                have KB := Lib.hid kb
                clear kb k6 k7 k8 k10 k13 k14 k18 k9
                refine region_drew (fun _ => True) (by kernel_rfl) trivial ?_
                intro hT
                have hS : Below y6.heap.size y6 y6.drew := below_drewN (Below.refl _ _) 1
                refine FloatB.float (W := y6) [(0, 74, .is (.agg c6)), (1, 75, .is (.agg ct)), (2, 76, .is (.agg ct)), (3, 77, .some (IsN (((((X3 - Z3) * (X2 + Z2)) - ((X3 + Z3) * (X2 - Z2))) * (((X3 - Z3) * (X2 + Z2)) - ((X3 + Z3) * (X2 - Z2))))))), (4, 78, .some (IsN ((u * ((((X3 - Z3) * (X2 + Z2)) - ((X3 + Z3) * (X2 - Z2))) * (((X3 - Z3) * (X2 + Z2)) - ((X3 + Z3) * (X2 - Z2))))))))] [0, 1, 2, 3, 4] 1 rfl (by rfl) (by kernel_rfl) (by kernel_rfl) (by kernel_rfl) (by kernel_rfl) (by kernel_rfl) (fun γ δ => rfl) hS (fun _ _ => trivial) (⟨fun i => match i with | 3 => .agg (nc (((((X3 - Z3) * (X2 + Z2)) - ((X3 + Z3) * (X2 - Z2))) * (((X3 - Z3) * (X2 + Z2)) - ((X3 + Z3) * (X2 - Z2))))).val) | 4 => .agg (nc ((u * ((((X3 - Z3) * (X2 + Z2)) - ((X3 + Z3) * (X2 - Z2))) * (((X3 - Z3) * (X2 + Z2)) - ((X3 + Z3) * (X2 - Z2)))))).val) | _ => undef, isN_self _, isN_self _, trivial⟩) ?_ ?_
                · intro γ δ hgd
                  simp only [FloatB.puts, Act.put, List.setIfInBounds_toArray, List.set_cons_zero, List.set_cons_succ]
                  obtain ⟨hg3, hg4, -⟩ := hgd
                  refine ⟨?_, ?_, ?_, ?_, ?_, trivial⟩
                  · exact ⟨_, _, rfl, FloatB.does_take (fun w hw => run_load_op 24 (.tmp 6) rfl b6 rfl (H6.out.below hw H6.out.lt) rfl rfl (by rw [nn_size nc6.out]; kernel_rfl))⟩
                  · exact ⟨_, _, rfl, FloatB.does_take (fun w hw => run_load_op 24 (.tmp 18) rfl b18 rfl (H18.out.below hw H18.out.lt) rfl rfl (by rw [nn_size nct.out]; kernel_rfl))⟩
                  · exact ⟨_, _, rfl, FloatB.does_take (fun w hw => run_load_op 24 (.tmp 18) rfl b18 rfl (H18.out.below hw H18.out.lt) rfl rfl (by rw [nn_size nct.out]; kernel_rfl))⟩
                  · exact ⟨_, _, rfl, FloatB.does_some 23 (#[(.agg ct), (.agg ct)]) (by intro w; go_simp; try with_reducible rfl) (fun w hw => mulN' (isN nct.out) (isN nct.out) w)⟩
                  · exact ⟨_, _, rfl, FloatB.does_some 23 (#[(.agg c6), (δ 3)]) (by intro w; go_simp; try with_reducible rfl) (fun w hw => mulN' (isN nc6.out) hg3 w)⟩
                · intro γ δ v hS hgd hrows hne
                  simp only [FloatB.puts, Act.put, List.setIfInBounds_toArray, List.set_cons_zero, List.set_cons_succ]
                  obtain ⟨hg3, hg4, -⟩ := hgd
                  clear hne hrows
                  generalize δ 3 = dv3 at *
                  obtain ⟨ctt, hnctt, rfl⟩ := hg3
                  have nctt := Lib.hid hnctt
                  clear hnctt
                  generalize δ 4 = dv4 at *
                  obtain ⟨n10, hnn10, rfl⟩ := hg4
                  have nn10 := Lib.hid hnn10
                  clear hnn10
                  clear γ δ
                  have lt_6 := H6.out.lt
                  replace H6 := Lib.hid (H6.out.below hS lt_6)
                  have lt_7 := H7.out.lt
                  replace H7 := Lib.hid (H7.out.below hS lt_7)
                  have lt_8 := H8.out.lt
                  replace H8 := Lib.hid (H8.out.below hS lt_8)
                  have lt_10 := H10.out.lt
                  replace H10 := Lib.hid (H10.out.below hS lt_10)
                  have lt_13 := H13.out.lt
                  replace H13 := Lib.hid (H13.out.below hS lt_13)
                  have lt_14 := H14.out.lt
                  replace H14 := Lib.hid (H14.out.below hS lt_14)
                  have lt_18 := H18.out.lt
                  replace H18 := Lib.hid (H18.out.below hS lt_18)
                  have lt_9 := H9.out.lt
                  replace H9 := Lib.hid (H9.out.below hS lt_9)
                  replace KB := Lib.hid (KB.out.trans (hS.mono (by omega)))
                  refine alone 5 rfl (by kernel_rfl) (by rfl) ?_
                  intro K hK
                  refine wp_store_row 24 (.tmp 10) (.tmp 78) rfl b10 n10 (by rfl) (by rfl) 24 _ H10.out (by rw [nn_size nn10.out]; kernel_rfl) (by rw [nn_size nc10.out, nn_size nn10.out]) (nn_one nn10.out) ?_
                  refine hK.out _ _ trivial ?_
                  clear hK K
                  try simp only [Act.put]
                  replace H6 := Lib.hid (Whole.farRow H6.out (g := b10) (by omega) n10)
                  replace H7 := Lib.hid (Whole.farRow H7.out (g := b10) (by omega) n10)
                  replace H8 := Lib.hid (Whole.farRow H8.out (g := b10) (by omega) n10)
                  replace H13 := Lib.hid (Whole.farRow H13.out (g := b10) (by omega) n10)
                  replace H14 := Lib.hid (Whole.farRow H14.out (g := b10) (by omega) n10)
                  replace H9 := Lib.hid (Whole.farRow H9.out (g := b10) (by omega) n10)
                  replace KB := Lib.hid (below_setRow KB.out (by omega) (g := b10) n10)
                  replace H10 := Lib.hid (setRow_heap _ _ _ n10 _ _ H10.out)
                  refine region_end (by kernel_rfl) ?_
                  clear H18
                  first | (refine cut_post (F := Exit.then _ _) (fun X => Whole X b6 24 c6 ∧ Whole X b7 24 c7 ∧ Whole X b8 24 c8 ∧ Whole X b10 24 n10 ∧ Whole X b13 24 ca ∧ Whole X b14 24 cb ∧ Whole X b9 24 n9 ∧ Below B w X ∧ B ≤ X.heap.size) ⟨H6.out, H7.out, H8.out, H10.out, H13.out, H14.out, H9.out, KB.out, le_heap H6.out lo6⟩ ?_) | (refine cut_post (F := Exit.inBlock _ _) (fun X => Whole X b6 24 c6 ∧ Whole X b7 24 c7 ∧ Whole X b8 24 c8 ∧ Whole X b10 24 n10 ∧ Whole X b13 24 ca ∧ Whole X b14 24 cb ∧ Whole X b9 24 n9 ∧ Below B w X ∧ B ≤ X.heap.size) ⟨H6.out, H7.out, H8.out, H10.out, H13.out, H14.out, H9.out, KB.out, le_heap H6.out lo6⟩ ?_)
                  clear KB H6 H7 H8 H10 H13 H14 H9 hS hT lt_6 lt_7 lt_8 lt_10 lt_13 lt_14 lt_18 lt_9
                  rintro yy7 ⟨k6, k7, k8, k10, k13, k14, k9, kb, hV⟩
                  have H6 := Lib.hid k6
                  have H7 := Lib.hid k7
                  have H8 := Lib.hid k8
                  have H10 := Lib.hid k10
                  have H13 := Lib.hid k13
                  have H14 := Lib.hid k14
                  have H9 := Lib.hid k9
                  have KB := Lib.hid kb
                  clear kb k6 k7 k8 k10 k13 k14 k9
                  go_wp2_with fail
                  refine region_drew (fun _ => True) (by kernel_rfl) trivial ?_
                  intro hT
                  have hS : Below yy7.heap.size yy7 yy7.drew := below_drewN (Below.refl _ _) 1
                  refine FloatB.float (W := yy7) [(0, 79, .is (.agg ca)), (1, 80, .is (.agg ca)), (2, 81, .some (IsN (((X2 + Z2) * (X2 + Z2))))), (3, 82, .is (.agg cb)), (4, 83, .is (.agg cb)), (5, 84, .some (IsN (((X2 - Z2) * (X2 - Z2))))), (6, 19, .row 24 zn), (7, 20, .row 24 zn)] [0, 1, 2, 3, 4, 5, 6, 7] 2 rfl (by rfl) (by kernel_rfl) (by kernel_rfl) (by kernel_rfl) (by kernel_rfl) (by kernel_rfl) (fun γ δ => rfl) hS (fun _ _ => trivial) (⟨fun i => match i with | 2 => .agg (nc (((X2 + Z2) * (X2 + Z2))).val) | 5 => .agg (nc (((X2 - Z2) * (X2 - Z2))).val) | _ => undef, isN_self _, isN_self _, trivial⟩) ?_ ?_
                  · intro γ δ hgd
                    simp only [FloatB.puts, Act.put, List.setIfInBounds_toArray, List.set_cons_zero, List.set_cons_succ]
                    obtain ⟨hg2, hg5, -⟩ := hgd
                    refine ⟨?_, ?_, ?_, ?_, ?_, ?_, ?_, ?_, trivial⟩
                    · exact ⟨_, _, rfl, FloatB.does_take (fun w hw => run_load_op 24 (.tmp 13) rfl b13 rfl (H13.out.below hw H13.out.lt) rfl rfl (by rw [nn_size nca.out]; kernel_rfl))⟩
                    · exact ⟨_, _, rfl, FloatB.does_take (fun w hw => run_load_op 24 (.tmp 13) rfl b13 rfl (H13.out.below hw H13.out.lt) rfl rfl (by rw [nn_size nca.out]; kernel_rfl))⟩
                    · exact ⟨_, _, rfl, FloatB.does_some 23 (#[(.agg ca), (.agg ca)]) (by intro w; go_simp; try with_reducible rfl) (fun w hw => mulN' (isN nca.out) (isN nca.out) w)⟩
                    · exact ⟨_, _, rfl, FloatB.does_take (fun w hw => run_load_op 24 (.tmp 14) rfl b14 rfl (H14.out.below hw H14.out.lt) rfl rfl (by rw [nn_size ncb.out]; kernel_rfl))⟩
                    · exact ⟨_, _, rfl, FloatB.does_take (fun w hw => run_load_op 24 (.tmp 14) rfl b14 rfl (H14.out.below hw H14.out.lt) rfl rfl (by rw [nn_size ncb.out]; kernel_rfl))⟩
                    · exact ⟨_, _, rfl, FloatB.does_some 23 (#[(.agg cb), (.agg cb)]) (by intro w; go_simp; try with_reducible rfl) (fun w hw => mulN' (isN ncb.out) (isN ncb.out) w)⟩
                    · exact ⟨_, _, rfl, fun w => by go_simp; try rfl⟩
                    · exact ⟨_, _, rfl, fun w => by go_simp; try rfl⟩
                  · intro γ δ v hS hgd hrows hne
                    simp only [FloatB.puts, Act.put, List.setIfInBounds_toArray, List.set_cons_zero, List.set_cons_succ]
                    obtain ⟨hg2, hg5, -⟩ := hgd
                    obtain ⟨⟨hge19, hr19⟩, ⟨hge20, hr20⟩, -⟩ := hrows
                    have hne19_20 := hne 6 7 rfl rfl (by decide) (by decide) (by decide)
                    clear hne
                    generalize γ 6 = b19 at *
                    have G19 := Lib.hid hr19
                    clear hr19
                    generalize γ 7 = b20 at *
                    have G20 := Lib.hid hr20
                    clear hr20
                    generalize δ 2 = dv2 at *
                    obtain ⟨caa, hncaa, rfl⟩ := hg2
                    have ncaa := Lib.hid hncaa
                    clear hncaa
                    generalize δ 5 = dv5 at *
                    obtain ⟨cbb, hncbb, rfl⟩ := hg5
                    have ncbb := Lib.hid hncbb
                    clear hncbb
                    clear γ δ
                    have lt_6 := H6.out.lt
                    replace H6 := Lib.hid (H6.out.below hS lt_6)
                    have lt_7 := H7.out.lt
                    replace H7 := Lib.hid (H7.out.below hS lt_7)
                    have lt_8 := H8.out.lt
                    replace H8 := Lib.hid (H8.out.below hS lt_8)
                    have lt_10 := H10.out.lt
                    replace H10 := Lib.hid (H10.out.below hS lt_10)
                    have lt_13 := H13.out.lt
                    replace H13 := Lib.hid (H13.out.below hS lt_13)
                    have lt_14 := H14.out.lt
                    replace H14 := Lib.hid (H14.out.below hS lt_14)
                    have lt_9 := H9.out.lt
                    replace H9 := Lib.hid (H9.out.below hS lt_9)
                    replace KB := Lib.hid (KB.out.trans (hS.mono (by omega)))
                    have o6_19 : b6 < b19 := by omega
                    have o7_19 : b7 < b19 := by omega
                    have o8_19 : b8 < b19 := by omega
                    have o9_19 : b9 < b19 := by omega
                    have o10_19 : b10 < b19 := by omega
                    have o6_20 : b6 < b20 := by omega
                    have o7_20 : b7 < b20 := by omega
                    have o8_20 : b8 < b20 := by omega
                    have o9_20 : b9 < b20 := by omega
                    have o10_20 : b10 < b20 := by omega
                    refine alone 8 rfl (by kernel_rfl) (by rfl) ?_
                    intro K hK
                    refine wp_store_row 24 (.tmp 19) (.tmp 81) rfl b19 caa (by rfl) (by rfl) 24 _ G19.out (by rw [nn_size ncaa.out]; kernel_rfl) (by rw [zn_size, nn_size ncaa.out]) (nn_one ncaa.out) ?_
                    refine hK.out _ _ trivial ?_
                    clear hK K
                    try simp only [Act.put]
                    replace H6 := Lib.hid (Whole.farRow H6.out (g := b19) (by omega) caa)
                    replace H7 := Lib.hid (Whole.farRow H7.out (g := b19) (by omega) caa)
                    replace H8 := Lib.hid (Whole.farRow H8.out (g := b19) (by omega) caa)
                    replace H10 := Lib.hid (Whole.farRow H10.out (g := b19) (by omega) caa)
                    replace H9 := Lib.hid (Whole.farRow H9.out (g := b19) (by omega) caa)
                    replace G20 := Lib.hid (Whole.farRow G20.out (g := b19) (by omega) caa)
                    replace KB := Lib.hid (below_setRow KB.out (by omega) (g := b19) caa)
                    have H19 := Lib.hid (setRow_heap _ _ _ caa _ _ G19.out)
                    clear G19
                    refine alone 9 rfl (by kernel_rfl) (by rfl) ?_
                    intro K hK
                    refine wp_store_row 24 (.tmp 20) (.tmp 84) rfl b20 cbb (by rfl) (by rfl) 24 _ G20.out (by rw [nn_size ncbb.out]; kernel_rfl) (by rw [zn_size, nn_size ncbb.out]) (nn_one ncbb.out) ?_
                    refine hK.out _ _ trivial ?_
                    clear hK K
                    try simp only [Act.put]
                    replace H6 := Lib.hid (Whole.farRow H6.out (g := b20) (by omega) cbb)
                    replace H7 := Lib.hid (Whole.farRow H7.out (g := b20) (by omega) cbb)
                    replace H8 := Lib.hid (Whole.farRow H8.out (g := b20) (by omega) cbb)
                    replace H10 := Lib.hid (Whole.farRow H10.out (g := b20) (by omega) cbb)
                    replace H9 := Lib.hid (Whole.farRow H9.out (g := b20) (by omega) cbb)
                    replace H19 := Lib.hid (Whole.farRow H19.out (g := b20) (by omega) cbb)
                    replace KB := Lib.hid (below_setRow KB.out (by omega) (g := b20) cbb)
                    have H20 := Lib.hid (setRow_heap _ _ _ cbb _ _ G20.out)
                    clear G20
                    refine region_end (by kernel_rfl) ?_
                    clear H13
                    clear H14
                    first | (refine cut_post (F := Exit.then _ _) (fun X => Whole X b6 24 c6 ∧ Whole X b7 24 c7 ∧ Whole X b8 24 c8 ∧ Whole X b10 24 n10 ∧ Whole X b9 24 n9 ∧ Whole X b19 24 caa ∧ Whole X b20 24 cbb ∧ Below B w X ∧ B ≤ X.heap.size) ⟨H6.out, H7.out, H8.out, H10.out, H9.out, H19.out, H20.out, KB.out, le_heap H6.out lo6⟩ ?_) | (refine cut_post (F := Exit.inBlock _ _) (fun X => Whole X b6 24 c6 ∧ Whole X b7 24 c7 ∧ Whole X b8 24 c8 ∧ Whole X b10 24 n10 ∧ Whole X b9 24 n9 ∧ Whole X b19 24 caa ∧ Whole X b20 24 cbb ∧ Below B w X ∧ B ≤ X.heap.size) ⟨H6.out, H7.out, H8.out, H10.out, H9.out, H19.out, H20.out, KB.out, le_heap H6.out lo6⟩ ?_)
                    clear KB H6 H7 H8 H10 H9 H19 H20 hS hT lt_6 lt_7 lt_8 lt_10 lt_13 lt_14 lt_9 hge19 hge20
                    rintro yy8 ⟨k6, k7, k8, k10, k9, k19, k20, kb, hV⟩
                    have H6 := Lib.hid k6
                    have H7 := Lib.hid k7
                    have H8 := Lib.hid k8
                    have H10 := Lib.hid k10
                    have H9 := Lib.hid k9
                    have H19 := Lib.hid k19
                    have H20 := Lib.hid k20
                    have KB := Lib.hid kb
                    clear kb k6 k7 k8 k10 k9 k19 k20
                    go_wp2_with (first | (refine wpList_load_row rfl 24 (.tmp 19) rfl b19 rfl 24 caa (0, 0) _ H19.out rfl rfl (by rw [nn_size ncaa.out]; kernel_rfl) ?_) | (refine wpList_load_row rfl 24 (.tmp 20) rfl b20 rfl 24 cbb (0, 0) _ H20.out rfl rfl (by rw [nn_size ncbb.out]; kernel_rfl) ?_))
                    refine (subN (isN ncaa.out) (isN ncbb.out) _).mono ?_
                    rintro e z9 ⟨_, rfl, ⟨ce, hn, rfl⟩, hb⟩
                    have nce := Lib.hid hn
                    clear hn
                    have lt_6 := H6.out.lt
                    replace H6 := Lib.hid (H6.out.below hb lt_6)
                    have lt_7 := H7.out.lt
                    replace H7 := Lib.hid (H7.out.below hb lt_7)
                    have lt_8 := H8.out.lt
                    replace H8 := Lib.hid (H8.out.below hb lt_8)
                    have lt_10 := H10.out.lt
                    replace H10 := Lib.hid (H10.out.below hb lt_10)
                    have lt_9 := H9.out.lt
                    replace H9 := Lib.hid (H9.out.below hb lt_9)
                    have lt_19 := H19.out.lt
                    replace H19 := Lib.hid (H19.out.below hb lt_19)
                    have lt_20 := H20.out.lt
                    replace H20 := Lib.hid (H20.out.below hb lt_20)
                    have hsz := hb.size
                    replace KB := Lib.hid (KB.out.trans (hb.mono (by omega)))
                    clear hb
                    go_upto_region 20 with (refine wpList_store_row rfl 24 (.tmp 21) (.tmp 87) rfl z9.heap.size ce rfl rfl 24 _ (Whole.new _ _ _) (by rw [nn_size nce.out]; kernel_rfl) (by rw [nn_size nce.out]; rfl) (nn_one nce.out) ?_)
                    refine cut_world (fun X => Whole X b6 24 c6 ∧ Whole X b7 24 c7 ∧ Whole X b8 24 c8 ∧ Whole X b10 24 n10 ∧ Whole X b9 24 n9 ∧ Whole X b19 24 caa ∧ Whole X b20 24 cbb ∧ Whole X z9.heap.size 24 ce ∧ Below B w X ∧ B ≤ X.heap.size ∧ b6 < z9.heap.size ∧ b7 < z9.heap.size ∧ b8 < z9.heap.size ∧ b9 < z9.heap.size ∧ b10 < z9.heap.size) ⟨Whole.farRow (H6.out.alloc _) (by omega) _, Whole.farRow (H7.out.alloc _) (by omega) _, Whole.farRow (H8.out.alloc _) (by omega) _, Whole.farRow (H10.out.alloc _) (by omega) _, Whole.farRow (H9.out.alloc _) (by omega) _, Whole.farRow (H19.out.alloc _) (by omega) _, Whole.farRow (H20.out.alloc _) (by omega) _, setRow_heap _ _ _ _ _ _ (Whole.new _ _ _), below_setRow (KB.out.alloc (by omega) _) (by omega) _, le_heap (setRow_heap _ _ _ _ _ _ (Whole.new _ _ _)) (by omega), by omega, by omega, by omega, by omega, by omega⟩ ?_
                    clear KB hsz H6 H7 H8 H10 H9 H19 H20 lt_6 lt_7 lt_8 lt_10 lt_9 lt_19 lt_20
                    generalize z9.heap.size = b21
                    rintro y9 ⟨k6, k7, k8, k10, k9, k19, k20, k21, kb, hV, o6_21, o7_21, o8_21, o9_21, o10_21⟩
                    have H6 := Lib.hid k6
                    have H7 := Lib.hid k7
                    have H8 := Lib.hid k8
                    have H10 := Lib.hid k10
                    have H9 := Lib.hid k9
                    have H19 := Lib.hid k19
                    have H20 := Lib.hid k20
                    have H21 := Lib.hid k21
                    have KB := Lib.hid kb
                    clear kb k6 k7 k8 k10 k9 k19 k20 k21
                    go_wp2_with (first | (refine wpList_load_row rfl 24 (.tmp 19) rfl b19 rfl 24 caa (0, 0) _ H19.out rfl rfl (by rw [nn_size ncaa.out]; kernel_rfl) ?_) | (refine wpList_load_row rfl 24 (.tmp 20) rfl b20 rfl 24 cbb (0, 0) _ H20.out rfl rfl (by rw [nn_size ncbb.out]; kernel_rfl) ?_))
                    refine (mulN' (isN ncaa.out) (isN ncbb.out) _).mono ?_
                    rintro e z10 ⟨_, rfl, ⟨n7, hn, rfl⟩, hb⟩
                    have nn7 := Lib.hid hn
                    clear hn
                    have lt_6 := H6.out.lt
                    replace H6 := Lib.hid (H6.out.below hb lt_6)
                    have lt_7 := H7.out.lt
                    replace H7 := Lib.hid (H7.out.below hb lt_7)
                    have lt_8 := H8.out.lt
                    replace H8 := Lib.hid (H8.out.below hb lt_8)
                    have lt_10 := H10.out.lt
                    replace H10 := Lib.hid (H10.out.below hb lt_10)
                    have lt_9 := H9.out.lt
                    replace H9 := Lib.hid (H9.out.below hb lt_9)
                    have lt_19 := H19.out.lt
                    replace H19 := Lib.hid (H19.out.below hb lt_19)
                    have lt_20 := H20.out.lt
                    replace H20 := Lib.hid (H20.out.below hb lt_20)
                    have lt_21 := H21.out.lt
                    replace H21 := Lib.hid (H21.out.below hb lt_21)
                    have hsz := hb.size
                    replace KB := Lib.hid (KB.out.trans (hb.mono (by omega)))
                    clear hb
                    go_upto_region 21 with (refine wpList_store_row rfl 24 (.tmp 7) (.tmp 90) rfl b7 n7 rfl rfl 24 _ H7.out (by rw [nn_size nn7.out]; kernel_rfl) (by rw [nn_size nc7.out, nn_size nn7.out]) (nn_one nn7.out) ?_)
                    refine cut_world (fun X => Whole X b6 24 c6 ∧ Whole X b8 24 c8 ∧ Whole X b10 24 n10 ∧ Whole X b9 24 n9 ∧ Whole X b19 24 caa ∧ Whole X b21 24 ce ∧ Whole X b7 24 n7 ∧ Below B w X ∧ B ≤ X.heap.size) ⟨Whole.farRow H6.out (by omega) _, Whole.farRow H8.out (by omega) _, Whole.farRow H10.out (by omega) _, Whole.farRow H9.out (by omega) _, Whole.farRow H19.out (by omega) _, Whole.farRow H21.out (by omega) _, setRow_heap _ _ _ _ _ _ H7.out, below_setRow KB.out (by omega) _, le_heap (setRow_heap _ _ _ n7 _ _ H7.out) lo7⟩ ?_
                    clear KB hsz H6 H7 H8 H10 H9 H19 H20 H21 lt_6 lt_7 lt_8 lt_10 lt_9 lt_19 lt_20 lt_21
                    rintro y10 ⟨k6, k8, k10, k9, k19, k21, k7, kb, hV⟩
                    have H6 := Lib.hid k6
                    have H8 := Lib.hid k8
                    have H10 := Lib.hid k10
                    have H9 := Lib.hid k9
                    have H19 := Lib.hid k19
                    have H21 := Lib.hid k21
                    have H7 := Lib.hid k7
                    have KB := Lib.hid kb
                    clear kb k6 k8 k10 k9 k19 k21 k7
                    refine region_drew (fun _ => True) (by kernel_rfl) trivial ?_
                    intro hT
                    have hS : Below y10.heap.size y10 y10.drew := below_drewN (Below.refl _ _) 1
                    refine FloatB.float (W := y10) [(0, 91, .is (.agg ce)), (1, 92, .is (.agg caa)), (2, 93, .is (.agg (nc 121665))), (3, 94, .is (.agg ce)), (4, 95, .some (IsN ((kP * (((X2 + Z2) * (X2 + Z2)) - ((X2 - Z2) * (X2 - Z2))))))), (5, 96, .some (IsN ((((X2 + Z2) * (X2 + Z2)) + kP * (((X2 + Z2) * (X2 + Z2)) - ((X2 - Z2) * (X2 - Z2))))))), (6, 97, .some (IsN (((((X2 + Z2) * (X2 + Z2)) - ((X2 - Z2) * (X2 - Z2))) * (((X2 + Z2) * (X2 + Z2)) + kP * (((X2 + Z2) * (X2 + Z2)) - ((X2 - Z2) * (X2 - Z2))))))))] [0, 1, 2, 3, 4, 5, 6] 1 rfl (by rfl) (by kernel_rfl) (by kernel_rfl) (by kernel_rfl) (by kernel_rfl) (by kernel_rfl) (fun γ δ => rfl) hS (fun _ _ => trivial) (⟨fun i => match i with | 4 => .agg (nc ((kP * (((X2 + Z2) * (X2 + Z2)) - ((X2 - Z2) * (X2 - Z2))))).val) | 5 => .agg (nc ((((X2 + Z2) * (X2 + Z2)) + kP * (((X2 + Z2) * (X2 + Z2)) - ((X2 - Z2) * (X2 - Z2))))).val) | 6 => .agg (nc (((((X2 + Z2) * (X2 + Z2)) - ((X2 - Z2) * (X2 - Z2))) * (((X2 + Z2) * (X2 + Z2)) + kP * (((X2 + Z2) * (X2 + Z2)) - ((X2 - Z2) * (X2 - Z2)))))).val) | _ => undef, isN_self _, isN_self _, isN_self _, trivial⟩) ?_ ?_
                    · intro γ δ hgd
                      simp only [FloatB.puts, Act.put, List.setIfInBounds_toArray, List.set_cons_zero, List.set_cons_succ]
                      obtain ⟨hg4, hg5, hg6, -⟩ := hgd
                      refine ⟨?_, ?_, ?_, ?_, ?_, ?_, ?_, trivial⟩
                      · exact ⟨_, _, rfl, FloatB.does_take (fun w hw => run_load_op 24 (.tmp 21) rfl b21 rfl (H21.out.below hw H21.out.lt) rfl rfl (by rw [nn_size nce.out]; kernel_rfl))⟩
                      · exact ⟨_, _, rfl, FloatB.does_take (fun w hw => run_load_op 24 (.tmp 19) rfl b19 rfl (H19.out.below hw H19.out.lt) rfl rfl (by rw [nn_size ncaa.out]; kernel_rfl))⟩
                      · exact ⟨_, _, rfl, FloatB.does_call 25 (#[.int .u32 121665]) (by intro w; go_simp; try with_reducible rfl) (fun w hw => RefF.small_any 121665 (by omega) w)⟩
                      · exact ⟨_, _, rfl, FloatB.does_take (fun w hw => run_load_op 24 (.tmp 21) rfl b21 rfl (H21.out.below hw H21.out.lt) rfl rfl (by rw [nn_size nce.out]; kernel_rfl))⟩
                      · exact ⟨_, _, rfl, FloatB.does_some 23 (#[(.agg (nc 121665)), (.agg ce)]) (by intro w; go_simp; try with_reducible rfl) (fun w hw => mulN' sm_kP (isN nce.out) w)⟩
                      · exact ⟨_, _, rfl, FloatB.does_some 16 (#[(.agg caa), (δ 4)]) (by intro w; go_simp; try with_reducible rfl) (fun w hw => addN (isN ncaa.out) hg4 w)⟩
                      · exact ⟨_, _, rfl, FloatB.does_some 23 (#[(.agg ce), (δ 5)]) (by intro w; go_simp; try with_reducible rfl) (fun w hw => mulN' (isN nce.out) hg5 w)⟩
                    · intro γ δ v hS hgd hrows hne
                      simp only [FloatB.puts, Act.put, List.setIfInBounds_toArray, List.set_cons_zero, List.set_cons_succ]
                      obtain ⟨hg4, hg5, hg6, -⟩ := hgd
                      clear hne hrows
                      generalize δ 4 = dv4 at *
                      obtain ⟨cke, hncke, rfl⟩ := hg4
                      have ncke := Lib.hid hncke
                      clear hncke
                      generalize δ 5 = dv5 at *
                      obtain ⟨cak, hncak, rfl⟩ := hg5
                      have ncak := Lib.hid hncak
                      clear hncak
                      generalize δ 6 = dv6 at *
                      obtain ⟨n8, hnn8, rfl⟩ := hg6
                      have nn8 := Lib.hid hnn8
                      clear hnn8
                      clear γ δ
                      have lt_6 := H6.out.lt
                      replace H6 := Lib.hid (H6.out.below hS lt_6)
                      have lt_8 := H8.out.lt
                      replace H8 := Lib.hid (H8.out.below hS lt_8)
                      have lt_10 := H10.out.lt
                      replace H10 := Lib.hid (H10.out.below hS lt_10)
                      have lt_9 := H9.out.lt
                      replace H9 := Lib.hid (H9.out.below hS lt_9)
                      have lt_19 := H19.out.lt
                      replace H19 := Lib.hid (H19.out.below hS lt_19)
                      have lt_21 := H21.out.lt
                      replace H21 := Lib.hid (H21.out.below hS lt_21)
                      have lt_7 := H7.out.lt
                      replace H7 := Lib.hid (H7.out.below hS lt_7)
                      replace KB := Lib.hid (KB.out.trans (hS.mono (by omega)))
                      refine alone 7 rfl (by kernel_rfl) (by rfl) ?_
                      intro K hK
                      refine wp_store_row 24 (.tmp 8) (.tmp 97) rfl b8 n8 (by rfl) (by rfl) 24 _ H8.out (by rw [nn_size nn8.out]; kernel_rfl) (by rw [nn_size nc8.out, nn_size nn8.out]) (nn_one nn8.out) ?_
                      refine hK.out _ _ trivial ?_
                      clear hK K
                      try simp only [Act.put]
                      replace H6 := Lib.hid (Whole.farRow H6.out (g := b8) (by omega) n8)
                      replace H10 := Lib.hid (Whole.farRow H10.out (g := b8) (by omega) n8)
                      replace H9 := Lib.hid (Whole.farRow H9.out (g := b8) (by omega) n8)
                      replace H7 := Lib.hid (Whole.farRow H7.out (g := b8) (by omega) n8)
                      replace KB := Lib.hid (below_setRow KB.out (by omega) (g := b8) n8)
                      replace H8 := Lib.hid (setRow_heap _ _ _ n8 _ _ H8.out)
                      refine region_end (by kernel_rfl) ?_
                      clear H19
                      clear H21
                      first | (refine cut_post (F := Exit.then _ _) (fun X => Whole X b6 24 c6 ∧ Whole X b8 24 n8 ∧ Whole X b10 24 n10 ∧ Whole X b9 24 n9 ∧ Whole X b7 24 n7 ∧ Below B w X ∧ B ≤ X.heap.size) ⟨H6.out, H8.out, H10.out, H9.out, H7.out, KB.out, le_heap H6.out lo6⟩ ?_) | (refine cut_post (F := Exit.inBlock _ _) (fun X => Whole X b6 24 c6 ∧ Whole X b8 24 n8 ∧ Whole X b10 24 n10 ∧ Whole X b9 24 n9 ∧ Whole X b7 24 n7 ∧ Below B w X ∧ B ≤ X.heap.size) ⟨H6.out, H8.out, H10.out, H9.out, H7.out, KB.out, le_heap H6.out lo6⟩ ?_)
                      clear KB H6 H8 H10 H9 H7 hS hT lt_6 lt_8 lt_10 lt_9 lt_19 lt_21 lt_7
                      rintro yy11 ⟨k6, k8, k10, k9, k7, kb, hV⟩
                      have H6 := Lib.hid k6
                      have H8 := Lib.hid k8
                      have H10 := Lib.hid k10
                      have H9 := Lib.hid k9
                      have H7 := Lib.hid k7
                      have KB := Lib.hid kb
                      clear kb k6 k8 k10 k9 k7
                      have HE := Lib.hid (show RefW w B b6 b7 b8 b9 b10 u (roundF kP u 0 ⟨X2, Z2, X3, Z3⟩) _ from ⟨c6, n7, n8, n9, n10, nc6.out, nn7.out, nn8.out, nn9.out, nn10.out, H6.out, H7.out, H8.out, H9.out, H10.out, KB.out⟩)
                      clear H6 H7 H8 H9 H10 KB
                      rw [← HNX.out] at HE
                      go_wp2_with fail
                      go_roundw
                      case rel => exact ⟨n + 1, by omega, congrArg (Value.int .i64) (by have := HP.out; omega), HE.out⟩
                      case measure => have := HP.out; simp [intOf]; try omega
        · have HNX := Lib.hid HNX0.out
          clear HNX0
          go_upto_region 10 with fail
          refine region_drew (fun _ => True) (by kernel_rfl) trivial ?_
          intro hT
          refine FloatC.go' (Sw4 w B b7 b8 b9 b10 c7 c8 c9 c10 (fun Z => Whole Z b6 24 c6)) (fun i => match i with | 0 => .agg c9 | 1 => .agg c10 | 2 => .agg c7 | 3 => .agg c8 | _ => undef) [0, 1, 2, 3, 4, 5, 6, 7] [(45, .agg c9), (46, .agg c10), (47, .agg c7), (48, .agg c8)] 0 (by rfl) (by kernel_rfl) (by kernel_rfl) (by kernel_rfl) (by kernel_rfl) (by kernel_rfl) rfl ⟨⟨fun _ => H7.out.drew, fun h => absurd (by decide) h⟩, ⟨fun _ => H8.out.drew, fun h => absurd (by decide) h⟩, ⟨fun _ => H9.out.drew, fun h => absurd (by decide) h⟩, ⟨fun _ => H10.out.drew, fun h => absurd (by decide) h⟩, Below.drew KB.out, H6.out.drew⟩ (fun _ _ _ => trivial) ?_ ?_
          · intro i hi oo hoo pend Z hnd hip hwait hs
            simp only [FloatC.putv, Act.put, List.setIfInBounds_toArray, List.set_cons_zero, List.set_cons_succ]
            have hcase : i = 0 ∨ i = 1 ∨ i = 2 ∨ i = 3 ∨ i = 4 ∨ i = 5 ∨ i = 6 ∨ i = 7 := by simpa using hi
            clear hi
            rcases hcase with rfl | rfl | rfl | rfl | rfl | rfl | rfl | rfl
            · have ho' := Option.some.inj hoo
              subst ho'
              have hm : 6 ∈ pend := hwait 6 (by decide) _ rfl (by kernel_rfl)
              have hl := hs.r3.1 hm
              exact ⟨_, _, run_load_op 24 (.tmp 9) rfl b9 rfl hl rfl rfl (by rw [nn_size nc9.out]; kernel_rfl), .inl rfl, hs.skip 0 (by decide)⟩
            · have ho' := Option.some.inj hoo
              subst ho'
              have hm : 7 ∈ pend := hwait 7 (by decide) _ rfl (by kernel_rfl)
              have hl := hs.r4.1 hm
              exact ⟨_, _, run_load_op 24 (.tmp 10) rfl b10 rfl hl rfl rfl (by rw [nn_size nc10.out]; kernel_rfl), .inl rfl, hs.skip 1 (by decide)⟩
            · have ho' := Option.some.inj hoo
              subst ho'
              have hm : 4 ∈ pend := hwait 4 (by decide) _ rfl (by kernel_rfl)
              have hl := hs.r1.1 hm
              exact ⟨_, _, run_load_op 24 (.tmp 7) rfl b7 rfl hl rfl rfl (by rw [nn_size nc7.out]; kernel_rfl), .inl rfl, hs.skip 2 (by decide)⟩
            · have ho' := Option.some.inj hoo
              subst ho'
              have hm : 5 ∈ pend := hwait 5 (by decide) _ rfl (by kernel_rfl)
              have hl := hs.r2.1 hm
              exact ⟨_, _, run_load_op 24 (.tmp 8) rfl b8 rfl hl rfl rfl (by rw [nn_size nc8.out]; kernel_rfl), .inl rfl, hs.skip 3 (by decide)⟩
            · have ho' := Option.some.inj hoo
              subst ho'
              have hl := hs.r1.1 hip
              refine ⟨_, _, FloatC.run_store_op 24 (.tmp 7) (.tmp 45) rfl b7 c9 rfl rfl 24 c7 hl (by rw [nn_size nc9.out]; kernel_rfl) (by rw [nn_size nc7.out, nn_size nc9.out]) (nn_one nc9.out), .inr ⟨rfl, rfl⟩, ?_⟩
              obtain ⟨q1, q2, q3, q4, q5, q6⟩ := hs
              exact ⟨done hnd (setRow_heap _ _ _ _ _ _ hl), keepF q2 (by decide) (fun h => Whole.farRow h (by omega) _) (fun h => Whole.farRow h (by omega) _), keepF q3 (by decide) (fun h => Whole.farRow h (by omega) _) (fun h => Whole.farRow h (by omega) _), keepF q4 (by decide) (fun h => Whole.farRow h (by omega) _) (fun h => Whole.farRow h (by omega) _), below_setRow q5 (by omega) _, Whole.farRow q6 (by omega) _⟩
            · have ho' := Option.some.inj hoo
              subst ho'
              have hl := hs.r2.1 hip
              refine ⟨_, _, FloatC.run_store_op 24 (.tmp 8) (.tmp 46) rfl b8 c10 rfl rfl 24 c8 hl (by rw [nn_size nc10.out]; kernel_rfl) (by rw [nn_size nc8.out, nn_size nc10.out]) (nn_one nc10.out), .inr ⟨rfl, rfl⟩, ?_⟩
              obtain ⟨q1, q2, q3, q4, q5, q6⟩ := hs
              exact ⟨keepF q1 (by decide) (fun h => Whole.farRow h (by omega) _) (fun h => Whole.farRow h (by omega) _), done hnd (setRow_heap _ _ _ _ _ _ hl), keepF q3 (by decide) (fun h => Whole.farRow h (by omega) _) (fun h => Whole.farRow h (by omega) _), keepF q4 (by decide) (fun h => Whole.farRow h (by omega) _) (fun h => Whole.farRow h (by omega) _), below_setRow q5 (by omega) _, Whole.farRow q6 (by omega) _⟩
            · have ho' := Option.some.inj hoo
              subst ho'
              have hl := hs.r3.1 hip
              refine ⟨_, _, FloatC.run_store_op 24 (.tmp 9) (.tmp 47) rfl b9 c7 rfl rfl 24 c9 hl (by rw [nn_size nc7.out]; kernel_rfl) (by rw [nn_size nc9.out, nn_size nc7.out]) (nn_one nc7.out), .inr ⟨rfl, rfl⟩, ?_⟩
              obtain ⟨q1, q2, q3, q4, q5, q6⟩ := hs
              exact ⟨keepF q1 (by decide) (fun h => Whole.farRow h (by omega) _) (fun h => Whole.farRow h (by omega) _), keepF q2 (by decide) (fun h => Whole.farRow h (by omega) _) (fun h => Whole.farRow h (by omega) _), done hnd (setRow_heap _ _ _ _ _ _ hl), keepF q4 (by decide) (fun h => Whole.farRow h (by omega) _) (fun h => Whole.farRow h (by omega) _), below_setRow q5 (by omega) _, Whole.farRow q6 (by omega) _⟩
            · have ho' := Option.some.inj hoo
              subst ho'
              have hl := hs.r4.1 hip
              refine ⟨_, _, FloatC.run_store_op 24 (.tmp 10) (.tmp 48) rfl b10 c8 rfl rfl 24 c10 hl (by rw [nn_size nc8.out]; kernel_rfl) (by rw [nn_size nc10.out, nn_size nc8.out]) (nn_one nc8.out), .inr ⟨rfl, rfl⟩, ?_⟩
              obtain ⟨q1, q2, q3, q4, q5, q6⟩ := hs
              exact ⟨keepF q1 (by decide) (fun h => Whole.farRow h (by omega) _) (fun h => Whole.farRow h (by omega) _), keepF q2 (by decide) (fun h => Whole.farRow h (by omega) _) (fun h => Whole.farRow h (by omega) _), keepF q3 (by decide) (fun h => Whole.farRow h (by omega) _) (fun h => Whole.farRow h (by omega) _), done hnd (setRow_heap _ _ _ _ _ _ hl), below_setRow q5 (by omega) _, Whole.farRow q6 (by omega) _⟩
          · intro Z hs
            simp only [FloatC.putv, Act.put, List.setIfInBounds_toArray, List.set_cons_zero, List.set_cons_succ]
            clear H6
            clear H7
            clear H8
            clear H9
            clear H10
            clear KB
            have H7 := Lib.hid (hs.r1.2 (by simp))
            have H8 := Lib.hid (hs.r2.2 (by simp))
            have H9 := Lib.hid (hs.r3.2 (by simp))
            have H10 := Lib.hid (hs.r4.2 (by simp))
            have H6 := Lib.hid (hs.oth)
            have KB := Lib.hid hs.bel
            clear hs hT
            refine region_end (by kernel_rfl) ?_
            first | (refine cut_post (F := Exit.then _ _) (fun X => Whole X b6 24 c6 ∧ Whole X b7 24 c9 ∧ Whole X b8 24 c10 ∧ Whole X b9 24 c7 ∧ Whole X b10 24 c8 ∧ Below B w X ∧ B ≤ X.heap.size) ⟨H6.out, H7.out, H8.out, H9.out, H10.out, KB.out, le_heap H6.out lo6⟩ ?_) | (refine cut_post (F := Exit.inBlock _ _) (fun X => Whole X b6 24 c6 ∧ Whole X b7 24 c9 ∧ Whole X b8 24 c10 ∧ Whole X b9 24 c7 ∧ Whole X b10 24 c8 ∧ Below B w X ∧ B ≤ X.heap.size) ⟨H6.out, H7.out, H8.out, H9.out, H10.out, KB.out, le_heap H6.out lo6⟩ ?_)
            clear KB H6 H7 H8 H9 H10 
            rintro wy1 ⟨k6, k7, k8, k9, k10, kb, hV⟩
            have H6 := Lib.hid k6
            have H7 := Lib.hid k7
            have H8 := Lib.hid k8
            have H9 := Lib.hid k9
            have H10 := Lib.hid k10
            have KB := Lib.hid kb
            clear kb k6 k7 k8 k9 k10
            go_wp2_with (first | (refine wpList_load_row rfl 24 (.tmp 7) rfl b7 rfl 24 c9 (0, 0) _ H7.out rfl rfl (by rw [nn_size nc9.out]; kernel_rfl) ?_) | (refine wpList_load_row rfl 24 (.tmp 8) rfl b8 rfl 24 c10 (0, 0) _ H8.out rfl rfl (by rw [nn_size nc10.out]; kernel_rfl) ?_))
            refine (addN (isN nc9.out) (isN nc10.out) _).mono ?_
            rintro e z2 ⟨_, rfl, ⟨ca, hn, rfl⟩, hb⟩
            have nca := Lib.hid hn
            clear hn
            have lt_6 := H6.out.lt
            replace H6 := Lib.hid (H6.out.below hb lt_6)
            have lt_7 := H7.out.lt
            replace H7 := Lib.hid (H7.out.below hb lt_7)
            have lt_8 := H8.out.lt
            replace H8 := Lib.hid (H8.out.below hb lt_8)
            have lt_9 := H9.out.lt
            replace H9 := Lib.hid (H9.out.below hb lt_9)
            have lt_10 := H10.out.lt
            replace H10 := Lib.hid (H10.out.below hb lt_10)
            have hsz := hb.size
            replace KB := Lib.hid (KB.out.trans (hb.mono (by omega)))
            clear hb
            go_upto_region 12 with (refine wpList_store_row rfl 24 (.tmp 13) (.tmp 51) rfl z2.heap.size ca rfl rfl 24 _ (Whole.new _ _ _) (by rw [nn_size nca.out]; kernel_rfl) (by rw [nn_size nca.out]; rfl) (nn_one nca.out) ?_)
            refine cut_world (fun X => Whole X b6 24 c6 ∧ Whole X b7 24 c9 ∧ Whole X b8 24 c10 ∧ Whole X b9 24 c7 ∧ Whole X b10 24 c8 ∧ Whole X z2.heap.size 24 ca ∧ Below B w X ∧ B ≤ X.heap.size ∧ b6 < z2.heap.size ∧ b7 < z2.heap.size ∧ b8 < z2.heap.size ∧ b9 < z2.heap.size ∧ b10 < z2.heap.size) ⟨Whole.farRow (H6.out.alloc _) (by omega) _, Whole.farRow (H7.out.alloc _) (by omega) _, Whole.farRow (H8.out.alloc _) (by omega) _, Whole.farRow (H9.out.alloc _) (by omega) _, Whole.farRow (H10.out.alloc _) (by omega) _, setRow_heap _ _ _ _ _ _ (Whole.new _ _ _), below_setRow (KB.out.alloc (by omega) _) (by omega) _, le_heap (setRow_heap _ _ _ _ _ _ (Whole.new _ _ _)) (by omega), by omega, by omega, by omega, by omega, by omega⟩ ?_
            clear KB hsz H6 H7 H8 H9 H10 lt_6 lt_7 lt_8 lt_9 lt_10
            generalize z2.heap.size = b13
            rintro y2 ⟨k6, k7, k8, k9, k10, k13, kb, hV, o6_13, o7_13, o8_13, o9_13, o10_13⟩
            have H6 := Lib.hid k6
            have H7 := Lib.hid k7
            have H8 := Lib.hid k8
            have H9 := Lib.hid k9
            have H10 := Lib.hid k10
            have H13 := Lib.hid k13
            have KB := Lib.hid kb
            clear kb k6 k7 k8 k9 k10 k13
            go_wp2_with (first | (refine wpList_load_row rfl 24 (.tmp 7) rfl b7 rfl 24 c9 (0, 0) _ H7.out rfl rfl (by rw [nn_size nc9.out]; kernel_rfl) ?_) | (refine wpList_load_row rfl 24 (.tmp 8) rfl b8 rfl 24 c10 (0, 0) _ H8.out rfl rfl (by rw [nn_size nc10.out]; kernel_rfl) ?_))
            refine (subN (isN nc9.out) (isN nc10.out) _).mono ?_
            rintro e z3 ⟨_, rfl, ⟨cb, hn, rfl⟩, hb⟩
            have ncb := Lib.hid hn
            clear hn
            have lt_6 := H6.out.lt
            replace H6 := Lib.hid (H6.out.below hb lt_6)
            have lt_7 := H7.out.lt
            replace H7 := Lib.hid (H7.out.below hb lt_7)
            have lt_8 := H8.out.lt
            replace H8 := Lib.hid (H8.out.below hb lt_8)
            have lt_9 := H9.out.lt
            replace H9 := Lib.hid (H9.out.below hb lt_9)
            have lt_10 := H10.out.lt
            replace H10 := Lib.hid (H10.out.below hb lt_10)
            have lt_13 := H13.out.lt
            replace H13 := Lib.hid (H13.out.below hb lt_13)
            have hsz := hb.size
            replace KB := Lib.hid (KB.out.trans (hb.mono (by omega)))
            clear hb
            go_upto_region 13 with (refine wpList_store_row rfl 24 (.tmp 14) (.tmp 54) rfl z3.heap.size cb rfl rfl 24 _ (Whole.new _ _ _) (by rw [nn_size ncb.out]; kernel_rfl) (by rw [nn_size ncb.out]; rfl) (nn_one ncb.out) ?_)
            refine cut_world (fun X => Whole X b6 24 c6 ∧ Whole X b7 24 c9 ∧ Whole X b8 24 c10 ∧ Whole X b9 24 c7 ∧ Whole X b10 24 c8 ∧ Whole X b13 24 ca ∧ Whole X z3.heap.size 24 cb ∧ Below B w X ∧ B ≤ X.heap.size ∧ b6 < z3.heap.size ∧ b7 < z3.heap.size ∧ b8 < z3.heap.size ∧ b9 < z3.heap.size ∧ b10 < z3.heap.size) ⟨Whole.farRow (H6.out.alloc _) (by omega) _, Whole.farRow (H7.out.alloc _) (by omega) _, Whole.farRow (H8.out.alloc _) (by omega) _, Whole.farRow (H9.out.alloc _) (by omega) _, Whole.farRow (H10.out.alloc _) (by omega) _, Whole.farRow (H13.out.alloc _) (by omega) _, setRow_heap _ _ _ _ _ _ (Whole.new _ _ _), below_setRow (KB.out.alloc (by omega) _) (by omega) _, le_heap (setRow_heap _ _ _ _ _ _ (Whole.new _ _ _)) (by omega), by omega, by omega, by omega, by omega, by omega⟩ ?_
            clear KB hsz H6 H7 H8 H9 H10 H13 lt_6 lt_7 lt_8 lt_9 lt_10 lt_13
            generalize z3.heap.size = b14
            rintro y3 ⟨k6, k7, k8, k9, k10, k13, k14, kb, hV, o6_14, o7_14, o8_14, o9_14, o10_14⟩
            have H6 := Lib.hid k6
            have H7 := Lib.hid k7
            have H8 := Lib.hid k8
            have H9 := Lib.hid k9
            have H10 := Lib.hid k10
            have H13 := Lib.hid k13
            have H14 := Lib.hid k14
            have KB := Lib.hid kb
            clear kb k6 k7 k8 k9 k10 k13 k14
            refine region_drew (fun _ => True) (by kernel_rfl) trivial ?_
            intro hT
            have hS : Below y3.heap.size y3 y3.drew := below_drewN (Below.refl _ _) 1
            refine FloatB.float (W := y3) [(0, 55, .is (.agg c7)), (1, 56, .is (.agg c8)), (2, 57, .some (IsN ((X2 - Z2)))), (3, 58, .is (.agg ca)), (4, 59, .some (IsN (((X2 - Z2) * (X3 + Z3))))), (5, 15, .row 24 zn)] [0, 1, 2, 3, 4, 5] 1 rfl (by rfl) (by kernel_rfl) (by kernel_rfl) (by kernel_rfl) (by kernel_rfl) (by kernel_rfl) (fun γ δ => rfl) hS (fun _ _ => trivial) (⟨fun i => match i with | 2 => .agg (nc ((X2 - Z2)).val) | 4 => .agg (nc (((X2 - Z2) * (X3 + Z3))).val) | _ => undef, isN_self _, isN_self _, trivial⟩) ?_ ?_
            · intro γ δ hgd
              simp only [FloatB.puts, Act.put, List.setIfInBounds_toArray, List.set_cons_zero, List.set_cons_succ]
              obtain ⟨hg2, hg4, -⟩ := hgd
              refine ⟨?_, ?_, ?_, ?_, ?_, ?_, trivial⟩
              · exact ⟨_, _, rfl, FloatB.does_take (fun w hw => run_load_op 24 (.tmp 9) rfl b9 rfl (H9.out.below hw H9.out.lt) rfl rfl (by rw [nn_size nc7.out]; kernel_rfl))⟩
              · exact ⟨_, _, rfl, FloatB.does_take (fun w hw => run_load_op 24 (.tmp 10) rfl b10 rfl (H10.out.below hw H10.out.lt) rfl rfl (by rw [nn_size nc8.out]; kernel_rfl))⟩
              · exact ⟨_, _, rfl, FloatB.does_some 17 (#[(.agg c7), (.agg c8)]) (by intro w; go_simp; try with_reducible rfl) (fun w hw => subN (isN nc7.out) (isN nc8.out) w)⟩
              · exact ⟨_, _, rfl, FloatB.does_take (fun w hw => run_load_op 24 (.tmp 13) rfl b13 rfl (H13.out.below hw H13.out.lt) rfl rfl (by rw [nn_size nca.out]; kernel_rfl))⟩
              · exact ⟨_, _, rfl, FloatB.does_some 23 (#[(δ 2), (.agg ca)]) (by intro w; go_simp; try with_reducible rfl) (fun w hw => mulN' hg2 (isN nca.out) w)⟩
              · exact ⟨_, _, rfl, fun w => by go_simp; try rfl⟩
            · intro γ δ v hS hgd hrows hne
              simp only [FloatB.puts, Act.put, List.setIfInBounds_toArray, List.set_cons_zero, List.set_cons_succ]
              obtain ⟨hg2, hg4, -⟩ := hgd
              obtain ⟨⟨hge15, hr15⟩, -⟩ := hrows
              clear hne
              generalize γ 5 = b15 at *
              have G15 := Lib.hid hr15
              clear hr15
              generalize δ 2 = dv2 at *
              obtain ⟨cd, hncd, rfl⟩ := hg2
              have ncd := Lib.hid hncd
              clear hncd
              generalize δ 4 = dv4 at *
              obtain ⟨cda, hncda, rfl⟩ := hg4
              have ncda := Lib.hid hncda
              clear hncda
              clear γ δ
              have lt_6 := H6.out.lt
              replace H6 := Lib.hid (H6.out.below hS lt_6)
              have lt_7 := H7.out.lt
              replace H7 := Lib.hid (H7.out.below hS lt_7)
              have lt_8 := H8.out.lt
              replace H8 := Lib.hid (H8.out.below hS lt_8)
              have lt_9 := H9.out.lt
              replace H9 := Lib.hid (H9.out.below hS lt_9)
              have lt_10 := H10.out.lt
              replace H10 := Lib.hid (H10.out.below hS lt_10)
              have lt_13 := H13.out.lt
              replace H13 := Lib.hid (H13.out.below hS lt_13)
              have lt_14 := H14.out.lt
              replace H14 := Lib.hid (H14.out.below hS lt_14)
              replace KB := Lib.hid (KB.out.trans (hS.mono (by omega)))
              have o6_15 : b6 < b15 := by omega
              have o7_15 : b7 < b15 := by omega
              have o8_15 : b8 < b15 := by omega
              have o9_15 : b9 < b15 := by omega
              have o10_15 : b10 < b15 := by omega
              refine alone 6 rfl (by kernel_rfl) (by rfl) ?_
              intro K hK
              refine wp_store_row 24 (.tmp 15) (.tmp 59) rfl b15 cda (by rfl) (by rfl) 24 _ G15.out (by rw [nn_size ncda.out]; kernel_rfl) (by rw [zn_size, nn_size ncda.out]) (nn_one ncda.out) ?_
              refine hK.out _ _ trivial ?_
              clear hK K
              try simp only [Act.put]
              replace H6 := Lib.hid (Whole.farRow H6.out (g := b15) (by omega) cda)
              replace H7 := Lib.hid (Whole.farRow H7.out (g := b15) (by omega) cda)
              replace H8 := Lib.hid (Whole.farRow H8.out (g := b15) (by omega) cda)
              replace H9 := Lib.hid (Whole.farRow H9.out (g := b15) (by omega) cda)
              replace H10 := Lib.hid (Whole.farRow H10.out (g := b15) (by omega) cda)
              replace H13 := Lib.hid (Whole.farRow H13.out (g := b15) (by omega) cda)
              replace H14 := Lib.hid (Whole.farRow H14.out (g := b15) (by omega) cda)
              replace KB := Lib.hid (below_setRow KB.out (by omega) (g := b15) cda)
              have H15 := Lib.hid (setRow_heap _ _ _ cda _ _ G15.out)
              clear G15
              refine region_end (by kernel_rfl) ?_
              first | (refine cut_post (F := Exit.then _ _) (fun X => Whole X b6 24 c6 ∧ Whole X b7 24 c9 ∧ Whole X b8 24 c10 ∧ Whole X b9 24 c7 ∧ Whole X b10 24 c8 ∧ Whole X b13 24 ca ∧ Whole X b14 24 cb ∧ Whole X b15 24 cda ∧ Below B w X ∧ B ≤ X.heap.size) ⟨H6.out, H7.out, H8.out, H9.out, H10.out, H13.out, H14.out, H15.out, KB.out, le_heap H6.out lo6⟩ ?_) | (refine cut_post (F := Exit.inBlock _ _) (fun X => Whole X b6 24 c6 ∧ Whole X b7 24 c9 ∧ Whole X b8 24 c10 ∧ Whole X b9 24 c7 ∧ Whole X b10 24 c8 ∧ Whole X b13 24 ca ∧ Whole X b14 24 cb ∧ Whole X b15 24 cda ∧ Below B w X ∧ B ≤ X.heap.size) ⟨H6.out, H7.out, H8.out, H9.out, H10.out, H13.out, H14.out, H15.out, KB.out, le_heap H6.out lo6⟩ ?_)
              clear KB H6 H7 H8 H9 H10 H13 H14 H15 hS hT lt_6 lt_7 lt_8 lt_9 lt_10 lt_13 lt_14 hge15
              rintro yy4 ⟨k6, k7, k8, k9, k10, k13, k14, k15, kb, hV⟩
              have H6 := Lib.hid k6
              have H7 := Lib.hid k7
              have H8 := Lib.hid k8
              have H9 := Lib.hid k9
              have H10 := Lib.hid k10
              have H13 := Lib.hid k13
              have H14 := Lib.hid k14
              have H15 := Lib.hid k15
              have KB := Lib.hid kb
              clear kb k6 k7 k8 k9 k10 k13 k14 k15
              go_wp2_with fail
              refine region_drew (fun _ => True) (by kernel_rfl) trivial ?_
              intro hT
              have hS : Below yy4.heap.size yy4 yy4.drew := below_drewN (Below.refl _ _) 1
              refine FloatB.float (W := yy4) [(0, 60, .is (.agg c7)), (1, 61, .is (.agg c8)), (2, 62, .some (IsN ((X2 + Z2)))), (3, 63, .is (.agg cb)), (4, 64, .some (IsN (((X2 + Z2) * (X3 - Z3))))), (5, 16, .row 24 zn)] [0, 1, 2, 3, 4, 5] 1 rfl (by rfl) (by kernel_rfl) (by kernel_rfl) (by kernel_rfl) (by kernel_rfl) (by kernel_rfl) (fun γ δ => rfl) hS (fun _ _ => trivial) (⟨fun i => match i with | 2 => .agg (nc ((X2 + Z2)).val) | 4 => .agg (nc (((X2 + Z2) * (X3 - Z3))).val) | _ => undef, isN_self _, isN_self _, trivial⟩) ?_ ?_
              · intro γ δ hgd
                simp only [FloatB.puts, Act.put, List.setIfInBounds_toArray, List.set_cons_zero, List.set_cons_succ]
                obtain ⟨hg2, hg4, -⟩ := hgd
                refine ⟨?_, ?_, ?_, ?_, ?_, ?_, trivial⟩
                · exact ⟨_, _, rfl, FloatB.does_take (fun w hw => run_load_op 24 (.tmp 9) rfl b9 rfl (H9.out.below hw H9.out.lt) rfl rfl (by rw [nn_size nc7.out]; kernel_rfl))⟩
                · exact ⟨_, _, rfl, FloatB.does_take (fun w hw => run_load_op 24 (.tmp 10) rfl b10 rfl (H10.out.below hw H10.out.lt) rfl rfl (by rw [nn_size nc8.out]; kernel_rfl))⟩
                · exact ⟨_, _, rfl, FloatB.does_some 16 (#[(.agg c7), (.agg c8)]) (by intro w; go_simp; try with_reducible rfl) (fun w hw => addN (isN nc7.out) (isN nc8.out) w)⟩
                · exact ⟨_, _, rfl, FloatB.does_take (fun w hw => run_load_op 24 (.tmp 14) rfl b14 rfl (H14.out.below hw H14.out.lt) rfl rfl (by rw [nn_size ncb.out]; kernel_rfl))⟩
                · exact ⟨_, _, rfl, FloatB.does_some 23 (#[(δ 2), (.agg cb)]) (by intro w; go_simp; try with_reducible rfl) (fun w hw => mulN' hg2 (isN ncb.out) w)⟩
                · exact ⟨_, _, rfl, fun w => by go_simp; try rfl⟩
              · intro γ δ v hS hgd hrows hne
                simp only [FloatB.puts, Act.put, List.setIfInBounds_toArray, List.set_cons_zero, List.set_cons_succ]
                obtain ⟨hg2, hg4, -⟩ := hgd
                obtain ⟨⟨hge16, hr16⟩, -⟩ := hrows
                clear hne
                generalize γ 5 = b16 at *
                have G16 := Lib.hid hr16
                clear hr16
                generalize δ 2 = dv2 at *
                obtain ⟨cc, hncc, rfl⟩ := hg2
                have ncc := Lib.hid hncc
                clear hncc
                generalize δ 4 = dv4 at *
                obtain ⟨ccb, hnccb, rfl⟩ := hg4
                have nccb := Lib.hid hnccb
                clear hnccb
                clear γ δ
                have lt_6 := H6.out.lt
                replace H6 := Lib.hid (H6.out.below hS lt_6)
                have lt_7 := H7.out.lt
                replace H7 := Lib.hid (H7.out.below hS lt_7)
                have lt_8 := H8.out.lt
                replace H8 := Lib.hid (H8.out.below hS lt_8)
                have lt_9 := H9.out.lt
                replace H9 := Lib.hid (H9.out.below hS lt_9)
                have lt_10 := H10.out.lt
                replace H10 := Lib.hid (H10.out.below hS lt_10)
                have lt_13 := H13.out.lt
                replace H13 := Lib.hid (H13.out.below hS lt_13)
                have lt_14 := H14.out.lt
                replace H14 := Lib.hid (H14.out.below hS lt_14)
                have lt_15 := H15.out.lt
                replace H15 := Lib.hid (H15.out.below hS lt_15)
                replace KB := Lib.hid (KB.out.trans (hS.mono (by omega)))
                have o6_16 : b6 < b16 := by omega
                have o7_16 : b7 < b16 := by omega
                have o8_16 : b8 < b16 := by omega
                have o9_16 : b9 < b16 := by omega
                have o10_16 : b10 < b16 := by omega
                refine alone 6 rfl (by kernel_rfl) (by rfl) ?_
                intro K hK
                refine wp_store_row 24 (.tmp 16) (.tmp 64) rfl b16 ccb (by rfl) (by rfl) 24 _ G16.out (by rw [nn_size nccb.out]; kernel_rfl) (by rw [zn_size, nn_size nccb.out]) (nn_one nccb.out) ?_
                refine hK.out _ _ trivial ?_
                clear hK K
                try simp only [Act.put]
                replace H6 := Lib.hid (Whole.farRow H6.out (g := b16) (by omega) ccb)
                replace H7 := Lib.hid (Whole.farRow H7.out (g := b16) (by omega) ccb)
                replace H8 := Lib.hid (Whole.farRow H8.out (g := b16) (by omega) ccb)
                replace H9 := Lib.hid (Whole.farRow H9.out (g := b16) (by omega) ccb)
                replace H10 := Lib.hid (Whole.farRow H10.out (g := b16) (by omega) ccb)
                replace H13 := Lib.hid (Whole.farRow H13.out (g := b16) (by omega) ccb)
                replace H14 := Lib.hid (Whole.farRow H14.out (g := b16) (by omega) ccb)
                replace H15 := Lib.hid (Whole.farRow H15.out (g := b16) (by omega) ccb)
                replace KB := Lib.hid (below_setRow KB.out (by omega) (g := b16) ccb)
                have H16 := Lib.hid (setRow_heap _ _ _ ccb _ _ G16.out)
                clear G16
                refine region_end (by kernel_rfl) ?_
                first | (refine cut_post (F := Exit.then _ _) (fun X => Whole X b6 24 c6 ∧ Whole X b7 24 c9 ∧ Whole X b8 24 c10 ∧ Whole X b9 24 c7 ∧ Whole X b10 24 c8 ∧ Whole X b13 24 ca ∧ Whole X b14 24 cb ∧ Whole X b15 24 cda ∧ Whole X b16 24 ccb ∧ Below B w X ∧ B ≤ X.heap.size) ⟨H6.out, H7.out, H8.out, H9.out, H10.out, H13.out, H14.out, H15.out, H16.out, KB.out, le_heap H6.out lo6⟩ ?_) | (refine cut_post (F := Exit.inBlock _ _) (fun X => Whole X b6 24 c6 ∧ Whole X b7 24 c9 ∧ Whole X b8 24 c10 ∧ Whole X b9 24 c7 ∧ Whole X b10 24 c8 ∧ Whole X b13 24 ca ∧ Whole X b14 24 cb ∧ Whole X b15 24 cda ∧ Whole X b16 24 ccb ∧ Below B w X ∧ B ≤ X.heap.size) ⟨H6.out, H7.out, H8.out, H9.out, H10.out, H13.out, H14.out, H15.out, H16.out, KB.out, le_heap H6.out lo6⟩ ?_)
                clear KB H6 H7 H8 H9 H10 H13 H14 H15 H16 hS hT lt_6 lt_7 lt_8 lt_9 lt_10 lt_13 lt_14 lt_15 hge16
                rintro yy5 ⟨k6, k7, k8, k9, k10, k13, k14, k15, k16, kb, hV⟩
                have H6 := Lib.hid k6
                have H7 := Lib.hid k7
                have H8 := Lib.hid k8
                have H9 := Lib.hid k9
                have H10 := Lib.hid k10
                have H13 := Lib.hid k13
                have H14 := Lib.hid k14
                have H15 := Lib.hid k15
                have H16 := Lib.hid k16
                have KB := Lib.hid kb
                clear kb k6 k7 k8 k9 k10 k13 k14 k15 k16
                go_wp2_with fail
                refine region_drew (fun _ => True) (by kernel_rfl) trivial ?_
                intro hT
                have hS : Below yy5.heap.size yy5 yy5.drew := below_drewN (Below.refl _ _) 1
                refine FloatB.float (W := yy5) [(0, 65, .is (.agg cda)), (1, 66, .is (.agg ccb)), (2, 67, .some (IsN ((((X2 - Z2) * (X3 + Z3)) + ((X2 + Z2) * (X3 - Z3)))))), (3, 68, .is (.agg cda)), (4, 69, .is (.agg ccb)), (5, 70, .some (IsN ((((X2 - Z2) * (X3 + Z3)) - ((X2 + Z2) * (X3 - Z3)))))), (6, 17, .row 24 zn), (7, 18, .row 24 zn)] [0, 1, 2, 3, 4, 5, 6, 7] 2 rfl (by rfl) (by kernel_rfl) (by kernel_rfl) (by kernel_rfl) (by kernel_rfl) (by kernel_rfl) (fun γ δ => rfl) hS (fun _ _ => trivial) (⟨fun i => match i with | 2 => .agg (nc ((((X2 - Z2) * (X3 + Z3)) + ((X2 + Z2) * (X3 - Z3)))).val) | 5 => .agg (nc ((((X2 - Z2) * (X3 + Z3)) - ((X2 + Z2) * (X3 - Z3)))).val) | _ => undef, isN_self _, isN_self _, trivial⟩) ?_ ?_
                · intro γ δ hgd
                  simp only [FloatB.puts, Act.put, List.setIfInBounds_toArray, List.set_cons_zero, List.set_cons_succ]
                  obtain ⟨hg2, hg5, -⟩ := hgd
                  refine ⟨?_, ?_, ?_, ?_, ?_, ?_, ?_, ?_, trivial⟩
                  · exact ⟨_, _, rfl, FloatB.does_take (fun w hw => run_load_op 24 (.tmp 15) rfl b15 rfl (H15.out.below hw H15.out.lt) rfl rfl (by rw [nn_size ncda.out]; kernel_rfl))⟩
                  · exact ⟨_, _, rfl, FloatB.does_take (fun w hw => run_load_op 24 (.tmp 16) rfl b16 rfl (H16.out.below hw H16.out.lt) rfl rfl (by rw [nn_size nccb.out]; kernel_rfl))⟩
                  · exact ⟨_, _, rfl, FloatB.does_some 16 (#[(.agg cda), (.agg ccb)]) (by intro w; go_simp; try with_reducible rfl) (fun w hw => addN (isN ncda.out) (isN nccb.out) w)⟩
                  · exact ⟨_, _, rfl, FloatB.does_take (fun w hw => run_load_op 24 (.tmp 15) rfl b15 rfl (H15.out.below hw H15.out.lt) rfl rfl (by rw [nn_size ncda.out]; kernel_rfl))⟩
                  · exact ⟨_, _, rfl, FloatB.does_take (fun w hw => run_load_op 24 (.tmp 16) rfl b16 rfl (H16.out.below hw H16.out.lt) rfl rfl (by rw [nn_size nccb.out]; kernel_rfl))⟩
                  · exact ⟨_, _, rfl, FloatB.does_some 17 (#[(.agg cda), (.agg ccb)]) (by intro w; go_simp; try with_reducible rfl) (fun w hw => subN (isN ncda.out) (isN nccb.out) w)⟩
                  · exact ⟨_, _, rfl, fun w => by go_simp; try rfl⟩
                  · exact ⟨_, _, rfl, fun w => by go_simp; try rfl⟩
                · intro γ δ v hS hgd hrows hne
                  simp only [FloatB.puts, Act.put, List.setIfInBounds_toArray, List.set_cons_zero, List.set_cons_succ]
                  obtain ⟨hg2, hg5, -⟩ := hgd
                  obtain ⟨⟨hge17, hr17⟩, ⟨hge18, hr18⟩, -⟩ := hrows
                  have hne17_18 := hne 6 7 rfl rfl (by decide) (by decide) (by decide)
                  clear hne
                  generalize γ 6 = b17 at *
                  have G17 := Lib.hid hr17
                  clear hr17
                  generalize γ 7 = b18 at *
                  have G18 := Lib.hid hr18
                  clear hr18
                  generalize δ 2 = dv2 at *
                  obtain ⟨cs, hncs, rfl⟩ := hg2
                  have ncs := Lib.hid hncs
                  clear hncs
                  generalize δ 5 = dv5 at *
                  obtain ⟨ct, hnct, rfl⟩ := hg5
                  have nct := Lib.hid hnct
                  clear hnct
                  clear γ δ
                  have lt_6 := H6.out.lt
                  replace H6 := Lib.hid (H6.out.below hS lt_6)
                  have lt_7 := H7.out.lt
                  replace H7 := Lib.hid (H7.out.below hS lt_7)
                  have lt_8 := H8.out.lt
                  replace H8 := Lib.hid (H8.out.below hS lt_8)
                  have lt_9 := H9.out.lt
                  replace H9 := Lib.hid (H9.out.below hS lt_9)
                  have lt_10 := H10.out.lt
                  replace H10 := Lib.hid (H10.out.below hS lt_10)
                  have lt_13 := H13.out.lt
                  replace H13 := Lib.hid (H13.out.below hS lt_13)
                  have lt_14 := H14.out.lt
                  replace H14 := Lib.hid (H14.out.below hS lt_14)
                  have lt_15 := H15.out.lt
                  replace H15 := Lib.hid (H15.out.below hS lt_15)
                  have lt_16 := H16.out.lt
                  replace H16 := Lib.hid (H16.out.below hS lt_16)
                  replace KB := Lib.hid (KB.out.trans (hS.mono (by omega)))
                  have o6_17 : b6 < b17 := by omega
                  have o7_17 : b7 < b17 := by omega
                  have o8_17 : b8 < b17 := by omega
                  have o9_17 : b9 < b17 := by omega
                  have o10_17 : b10 < b17 := by omega
                  have o6_18 : b6 < b18 := by omega
                  have o7_18 : b7 < b18 := by omega
                  have o8_18 : b8 < b18 := by omega
                  have o9_18 : b9 < b18 := by omega
                  have o10_18 : b10 < b18 := by omega
                  refine alone 8 rfl (by kernel_rfl) (by rfl) ?_
                  intro K hK
                  refine wp_store_row 24 (.tmp 17) (.tmp 67) rfl b17 cs (by rfl) (by rfl) 24 _ G17.out (by rw [nn_size ncs.out]; kernel_rfl) (by rw [zn_size, nn_size ncs.out]) (nn_one ncs.out) ?_
                  refine hK.out _ _ trivial ?_
                  clear hK K
                  try simp only [Act.put]
                  replace H6 := Lib.hid (Whole.farRow H6.out (g := b17) (by omega) cs)
                  replace H7 := Lib.hid (Whole.farRow H7.out (g := b17) (by omega) cs)
                  replace H8 := Lib.hid (Whole.farRow H8.out (g := b17) (by omega) cs)
                  replace H9 := Lib.hid (Whole.farRow H9.out (g := b17) (by omega) cs)
                  replace H10 := Lib.hid (Whole.farRow H10.out (g := b17) (by omega) cs)
                  replace H13 := Lib.hid (Whole.farRow H13.out (g := b17) (by omega) cs)
                  replace H14 := Lib.hid (Whole.farRow H14.out (g := b17) (by omega) cs)
                  replace G18 := Lib.hid (Whole.farRow G18.out (g := b17) (by omega) cs)
                  replace KB := Lib.hid (below_setRow KB.out (by omega) (g := b17) cs)
                  have H17 := Lib.hid (setRow_heap _ _ _ cs _ _ G17.out)
                  clear G17
                  refine alone 9 rfl (by kernel_rfl) (by rfl) ?_
                  intro K hK
                  refine wp_store_row 24 (.tmp 18) (.tmp 70) rfl b18 ct (by rfl) (by rfl) 24 _ G18.out (by rw [nn_size nct.out]; kernel_rfl) (by rw [zn_size, nn_size nct.out]) (nn_one nct.out) ?_
                  refine hK.out _ _ trivial ?_
                  clear hK K
                  try simp only [Act.put]
                  replace H6 := Lib.hid (Whole.farRow H6.out (g := b18) (by omega) ct)
                  replace H7 := Lib.hid (Whole.farRow H7.out (g := b18) (by omega) ct)
                  replace H8 := Lib.hid (Whole.farRow H8.out (g := b18) (by omega) ct)
                  replace H9 := Lib.hid (Whole.farRow H9.out (g := b18) (by omega) ct)
                  replace H10 := Lib.hid (Whole.farRow H10.out (g := b18) (by omega) ct)
                  replace H13 := Lib.hid (Whole.farRow H13.out (g := b18) (by omega) ct)
                  replace H14 := Lib.hid (Whole.farRow H14.out (g := b18) (by omega) ct)
                  replace H17 := Lib.hid (Whole.farRow H17.out (g := b18) (by omega) ct)
                  replace KB := Lib.hid (below_setRow KB.out (by omega) (g := b18) ct)
                  have H18 := Lib.hid (setRow_heap _ _ _ ct _ _ G18.out)
                  clear G18
                  refine region_end (by kernel_rfl) ?_
                  clear H15
                  clear H16
                  first | (refine cut_post (F := Exit.then _ _) (fun X => Whole X b6 24 c6 ∧ Whole X b7 24 c9 ∧ Whole X b8 24 c10 ∧ Whole X b9 24 c7 ∧ Whole X b10 24 c8 ∧ Whole X b13 24 ca ∧ Whole X b14 24 cb ∧ Whole X b17 24 cs ∧ Whole X b18 24 ct ∧ Below B w X ∧ B ≤ X.heap.size) ⟨H6.out, H7.out, H8.out, H9.out, H10.out, H13.out, H14.out, H17.out, H18.out, KB.out, le_heap H6.out lo6⟩ ?_) | (refine cut_post (F := Exit.inBlock _ _) (fun X => Whole X b6 24 c6 ∧ Whole X b7 24 c9 ∧ Whole X b8 24 c10 ∧ Whole X b9 24 c7 ∧ Whole X b10 24 c8 ∧ Whole X b13 24 ca ∧ Whole X b14 24 cb ∧ Whole X b17 24 cs ∧ Whole X b18 24 ct ∧ Below B w X ∧ B ≤ X.heap.size) ⟨H6.out, H7.out, H8.out, H9.out, H10.out, H13.out, H14.out, H17.out, H18.out, KB.out, le_heap H6.out lo6⟩ ?_)
                  clear KB H6 H7 H8 H9 H10 H13 H14 H17 H18 hS hT lt_6 lt_7 lt_8 lt_9 lt_10 lt_13 lt_14 lt_15 lt_16 hge17 hge18
                  rintro yy6 ⟨k6, k7, k8, k9, k10, k13, k14, k17, k18, kb, hV⟩
                  have H6 := Lib.hid k6
                  have H7 := Lib.hid k7
                  have H8 := Lib.hid k8
                  have H9 := Lib.hid k9
                  have H10 := Lib.hid k10
                  have H13 := Lib.hid k13
                  have H14 := Lib.hid k14
                  have H17 := Lib.hid k17
                  have H18 := Lib.hid k18
                  have KB := Lib.hid kb
                  clear kb k6 k7 k8 k9 k10 k13 k14 k17 k18
                  go_wp2_with (first | (refine wpList_load_row rfl 24 (.tmp 17) rfl b17 rfl 24 cs (0, 0) _ H17.out rfl rfl (by rw [nn_size ncs.out]; kernel_rfl) ?_) | (refine wpList_load_row rfl 24 (.tmp 17) rfl b17 rfl 24 cs (0, 0) _ H17.out rfl rfl (by rw [nn_size ncs.out]; kernel_rfl) ?_))
                  refine (mulN' (isN ncs.out) (isN ncs.out) _).mono ?_
                  rintro e z7 ⟨_, rfl, ⟨n9, hn, rfl⟩, hb⟩
                  have nn9 := Lib.hid hn
                  clear hn
                  have lt_6 := H6.out.lt
                  replace H6 := Lib.hid (H6.out.below hb lt_6)
                  have lt_7 := H7.out.lt
                  replace H7 := Lib.hid (H7.out.below hb lt_7)
                  have lt_8 := H8.out.lt
                  replace H8 := Lib.hid (H8.out.below hb lt_8)
                  have lt_9 := H9.out.lt
                  replace H9 := Lib.hid (H9.out.below hb lt_9)
                  have lt_10 := H10.out.lt
                  replace H10 := Lib.hid (H10.out.below hb lt_10)
                  have lt_13 := H13.out.lt
                  replace H13 := Lib.hid (H13.out.below hb lt_13)
                  have lt_14 := H14.out.lt
                  replace H14 := Lib.hid (H14.out.below hb lt_14)
                  have lt_17 := H17.out.lt
                  replace H17 := Lib.hid (H17.out.below hb lt_17)
                  have lt_18 := H18.out.lt
                  replace H18 := Lib.hid (H18.out.below hb lt_18)
                  have hsz := hb.size
                  replace KB := Lib.hid (KB.out.trans (hb.mono (by omega)))
                  clear hb
                  go_upto_region 17 with (refine wpList_store_row rfl 24 (.tmp 9) (.tmp 73) rfl b9 n9 rfl rfl 24 _ H9.out (by rw [nn_size nn9.out]; kernel_rfl) (by rw [nn_size nc7.out, nn_size nn9.out]) (nn_one nn9.out) ?_)
                  refine cut_world (fun X => Whole X b6 24 c6 ∧ Whole X b7 24 c9 ∧ Whole X b8 24 c10 ∧ Whole X b10 24 c8 ∧ Whole X b13 24 ca ∧ Whole X b14 24 cb ∧ Whole X b18 24 ct ∧ Whole X b9 24 n9 ∧ Below B w X ∧ B ≤ X.heap.size) ⟨Whole.farRow H6.out (by omega) _, Whole.farRow H7.out (by omega) _, Whole.farRow H8.out (by omega) _, Whole.farRow H10.out (by omega) _, Whole.farRow H13.out (by omega) _, Whole.farRow H14.out (by omega) _, Whole.farRow H18.out (by omega) _, setRow_heap _ _ _ _ _ _ H9.out, below_setRow KB.out (by omega) _, le_heap (setRow_heap _ _ _ n9 _ _ H9.out) lo9⟩ ?_
                  clear KB hsz H6 H7 H8 H9 H10 H13 H14 H17 H18 lt_6 lt_7 lt_8 lt_9 lt_10 lt_13 lt_14 lt_17 lt_18
                  rintro y7 ⟨k6, k7, k8, k10, k13, k14, k18, k9, kb, hV⟩
                  have H6 := Lib.hid k6
                  have H7 := Lib.hid k7
                  have H8 := Lib.hid k8
                  have H10 := Lib.hid k10
                  have H13 := Lib.hid k13
                  have H14 := Lib.hid k14
                  have H18 := Lib.hid k18
                  have H9 := Lib.hid k9
                  have KB := Lib.hid kb
                  clear kb k6 k7 k8 k10 k13 k14 k18 k9
                  refine region_drew (fun _ => True) (by kernel_rfl) trivial ?_
                  intro hT
                  have hS : Below y7.heap.size y7 y7.drew := below_drewN (Below.refl _ _) 1
                  refine FloatB.float (W := y7) [(0, 74, .is (.agg c6)), (1, 75, .is (.agg ct)), (2, 76, .is (.agg ct)), (3, 77, .some (IsN (((((X2 - Z2) * (X3 + Z3)) - ((X2 + Z2) * (X3 - Z3))) * (((X2 - Z2) * (X3 + Z3)) - ((X2 + Z2) * (X3 - Z3))))))), (4, 78, .some (IsN ((u * ((((X2 - Z2) * (X3 + Z3)) - ((X2 + Z2) * (X3 - Z3))) * (((X2 - Z2) * (X3 + Z3)) - ((X2 + Z2) * (X3 - Z3))))))))] [0, 1, 2, 3, 4] 1 rfl (by rfl) (by kernel_rfl) (by kernel_rfl) (by kernel_rfl) (by kernel_rfl) (by kernel_rfl) (fun γ δ => rfl) hS (fun _ _ => trivial) (⟨fun i => match i with | 3 => .agg (nc (((((X2 - Z2) * (X3 + Z3)) - ((X2 + Z2) * (X3 - Z3))) * (((X2 - Z2) * (X3 + Z3)) - ((X2 + Z2) * (X3 - Z3))))).val) | 4 => .agg (nc ((u * ((((X2 - Z2) * (X3 + Z3)) - ((X2 + Z2) * (X3 - Z3))) * (((X2 - Z2) * (X3 + Z3)) - ((X2 + Z2) * (X3 - Z3)))))).val) | _ => undef, isN_self _, isN_self _, trivial⟩) ?_ ?_
                  · intro γ δ hgd
                    simp only [FloatB.puts, Act.put, List.setIfInBounds_toArray, List.set_cons_zero, List.set_cons_succ]
                    obtain ⟨hg3, hg4, -⟩ := hgd
                    refine ⟨?_, ?_, ?_, ?_, ?_, trivial⟩
                    · exact ⟨_, _, rfl, FloatB.does_take (fun w hw => run_load_op 24 (.tmp 6) rfl b6 rfl (H6.out.below hw H6.out.lt) rfl rfl (by rw [nn_size nc6.out]; kernel_rfl))⟩
                    · exact ⟨_, _, rfl, FloatB.does_take (fun w hw => run_load_op 24 (.tmp 18) rfl b18 rfl (H18.out.below hw H18.out.lt) rfl rfl (by rw [nn_size nct.out]; kernel_rfl))⟩
                    · exact ⟨_, _, rfl, FloatB.does_take (fun w hw => run_load_op 24 (.tmp 18) rfl b18 rfl (H18.out.below hw H18.out.lt) rfl rfl (by rw [nn_size nct.out]; kernel_rfl))⟩
                    · exact ⟨_, _, rfl, FloatB.does_some 23 (#[(.agg ct), (.agg ct)]) (by intro w; go_simp; try with_reducible rfl) (fun w hw => mulN' (isN nct.out) (isN nct.out) w)⟩
                    · exact ⟨_, _, rfl, FloatB.does_some 23 (#[(.agg c6), (δ 3)]) (by intro w; go_simp; try with_reducible rfl) (fun w hw => mulN' (isN nc6.out) hg3 w)⟩
                  · intro γ δ v hS hgd hrows hne
                    simp only [FloatB.puts, Act.put, List.setIfInBounds_toArray, List.set_cons_zero, List.set_cons_succ]
                    obtain ⟨hg3, hg4, -⟩ := hgd
                    clear hne hrows
                    generalize δ 3 = dv3 at *
                    obtain ⟨ctt, hnctt, rfl⟩ := hg3
                    have nctt := Lib.hid hnctt
                    clear hnctt
                    generalize δ 4 = dv4 at *
                    obtain ⟨n10, hnn10, rfl⟩ := hg4
                    have nn10 := Lib.hid hnn10
                    clear hnn10
                    clear γ δ
                    have lt_6 := H6.out.lt
                    replace H6 := Lib.hid (H6.out.below hS lt_6)
                    have lt_7 := H7.out.lt
                    replace H7 := Lib.hid (H7.out.below hS lt_7)
                    have lt_8 := H8.out.lt
                    replace H8 := Lib.hid (H8.out.below hS lt_8)
                    have lt_10 := H10.out.lt
                    replace H10 := Lib.hid (H10.out.below hS lt_10)
                    have lt_13 := H13.out.lt
                    replace H13 := Lib.hid (H13.out.below hS lt_13)
                    have lt_14 := H14.out.lt
                    replace H14 := Lib.hid (H14.out.below hS lt_14)
                    have lt_18 := H18.out.lt
                    replace H18 := Lib.hid (H18.out.below hS lt_18)
                    have lt_9 := H9.out.lt
                    replace H9 := Lib.hid (H9.out.below hS lt_9)
                    replace KB := Lib.hid (KB.out.trans (hS.mono (by omega)))
                    refine alone 5 rfl (by kernel_rfl) (by rfl) ?_
                    intro K hK
                    refine wp_store_row 24 (.tmp 10) (.tmp 78) rfl b10 n10 (by rfl) (by rfl) 24 _ H10.out (by rw [nn_size nn10.out]; kernel_rfl) (by rw [nn_size nc8.out, nn_size nn10.out]) (nn_one nn10.out) ?_
                    refine hK.out _ _ trivial ?_
                    clear hK K
                    try simp only [Act.put]
                    replace H6 := Lib.hid (Whole.farRow H6.out (g := b10) (by omega) n10)
                    replace H7 := Lib.hid (Whole.farRow H7.out (g := b10) (by omega) n10)
                    replace H8 := Lib.hid (Whole.farRow H8.out (g := b10) (by omega) n10)
                    replace H13 := Lib.hid (Whole.farRow H13.out (g := b10) (by omega) n10)
                    replace H14 := Lib.hid (Whole.farRow H14.out (g := b10) (by omega) n10)
                    replace H9 := Lib.hid (Whole.farRow H9.out (g := b10) (by omega) n10)
                    replace KB := Lib.hid (below_setRow KB.out (by omega) (g := b10) n10)
                    replace H10 := Lib.hid (setRow_heap _ _ _ n10 _ _ H10.out)
                    refine region_end (by kernel_rfl) ?_
                    clear H18
                    first | (refine cut_post (F := Exit.then _ _) (fun X => Whole X b6 24 c6 ∧ Whole X b7 24 c9 ∧ Whole X b8 24 c10 ∧ Whole X b10 24 n10 ∧ Whole X b13 24 ca ∧ Whole X b14 24 cb ∧ Whole X b9 24 n9 ∧ Below B w X ∧ B ≤ X.heap.size) ⟨H6.out, H7.out, H8.out, H10.out, H13.out, H14.out, H9.out, KB.out, le_heap H6.out lo6⟩ ?_) | (refine cut_post (F := Exit.inBlock _ _) (fun X => Whole X b6 24 c6 ∧ Whole X b7 24 c9 ∧ Whole X b8 24 c10 ∧ Whole X b10 24 n10 ∧ Whole X b13 24 ca ∧ Whole X b14 24 cb ∧ Whole X b9 24 n9 ∧ Below B w X ∧ B ≤ X.heap.size) ⟨H6.out, H7.out, H8.out, H10.out, H13.out, H14.out, H9.out, KB.out, le_heap H6.out lo6⟩ ?_)
                    clear KB H6 H7 H8 H10 H13 H14 H9 hS hT lt_6 lt_7 lt_8 lt_10 lt_13 lt_14 lt_18 lt_9
                    rintro yy8 ⟨k6, k7, k8, k10, k13, k14, k9, kb, hV⟩
                    have H6 := Lib.hid k6
                    have H7 := Lib.hid k7
                    have H8 := Lib.hid k8
                    have H10 := Lib.hid k10
                    have H13 := Lib.hid k13
                    have H14 := Lib.hid k14
                    have H9 := Lib.hid k9
                    have KB := Lib.hid kb
                    clear kb k6 k7 k8 k10 k13 k14 k9
                    go_wp2_with fail
                    refine region_drew (fun _ => True) (by kernel_rfl) trivial ?_
                    intro hT
                    have hS : Below yy8.heap.size yy8 yy8.drew := below_drewN (Below.refl _ _) 1
                    refine FloatB.float (W := yy8) [(0, 79, .is (.agg ca)), (1, 80, .is (.agg ca)), (2, 81, .some (IsN (((X3 + Z3) * (X3 + Z3))))), (3, 82, .is (.agg cb)), (4, 83, .is (.agg cb)), (5, 84, .some (IsN (((X3 - Z3) * (X3 - Z3))))), (6, 19, .row 24 zn), (7, 20, .row 24 zn)] [0, 1, 2, 3, 4, 5, 6, 7] 2 rfl (by rfl) (by kernel_rfl) (by kernel_rfl) (by kernel_rfl) (by kernel_rfl) (by kernel_rfl) (fun γ δ => rfl) hS (fun _ _ => trivial) (⟨fun i => match i with | 2 => .agg (nc (((X3 + Z3) * (X3 + Z3))).val) | 5 => .agg (nc (((X3 - Z3) * (X3 - Z3))).val) | _ => undef, isN_self _, isN_self _, trivial⟩) ?_ ?_
                    · intro γ δ hgd
                      simp only [FloatB.puts, Act.put, List.setIfInBounds_toArray, List.set_cons_zero, List.set_cons_succ]
                      obtain ⟨hg2, hg5, -⟩ := hgd
                      refine ⟨?_, ?_, ?_, ?_, ?_, ?_, ?_, ?_, trivial⟩
                      · exact ⟨_, _, rfl, FloatB.does_take (fun w hw => run_load_op 24 (.tmp 13) rfl b13 rfl (H13.out.below hw H13.out.lt) rfl rfl (by rw [nn_size nca.out]; kernel_rfl))⟩
                      · exact ⟨_, _, rfl, FloatB.does_take (fun w hw => run_load_op 24 (.tmp 13) rfl b13 rfl (H13.out.below hw H13.out.lt) rfl rfl (by rw [nn_size nca.out]; kernel_rfl))⟩
                      · exact ⟨_, _, rfl, FloatB.does_some 23 (#[(.agg ca), (.agg ca)]) (by intro w; go_simp; try with_reducible rfl) (fun w hw => mulN' (isN nca.out) (isN nca.out) w)⟩
                      · exact ⟨_, _, rfl, FloatB.does_take (fun w hw => run_load_op 24 (.tmp 14) rfl b14 rfl (H14.out.below hw H14.out.lt) rfl rfl (by rw [nn_size ncb.out]; kernel_rfl))⟩
                      · exact ⟨_, _, rfl, FloatB.does_take (fun w hw => run_load_op 24 (.tmp 14) rfl b14 rfl (H14.out.below hw H14.out.lt) rfl rfl (by rw [nn_size ncb.out]; kernel_rfl))⟩
                      · exact ⟨_, _, rfl, FloatB.does_some 23 (#[(.agg cb), (.agg cb)]) (by intro w; go_simp; try with_reducible rfl) (fun w hw => mulN' (isN ncb.out) (isN ncb.out) w)⟩
                      · exact ⟨_, _, rfl, fun w => by go_simp; try rfl⟩
                      · exact ⟨_, _, rfl, fun w => by go_simp; try rfl⟩
                    · intro γ δ v hS hgd hrows hne
                      simp only [FloatB.puts, Act.put, List.setIfInBounds_toArray, List.set_cons_zero, List.set_cons_succ]
                      obtain ⟨hg2, hg5, -⟩ := hgd
                      obtain ⟨⟨hge19, hr19⟩, ⟨hge20, hr20⟩, -⟩ := hrows
                      have hne19_20 := hne 6 7 rfl rfl (by decide) (by decide) (by decide)
                      clear hne
                      generalize γ 6 = b19 at *
                      have G19 := Lib.hid hr19
                      clear hr19
                      generalize γ 7 = b20 at *
                      have G20 := Lib.hid hr20
                      clear hr20
                      generalize δ 2 = dv2 at *
                      obtain ⟨caa, hncaa, rfl⟩ := hg2
                      have ncaa := Lib.hid hncaa
                      clear hncaa
                      generalize δ 5 = dv5 at *
                      obtain ⟨cbb, hncbb, rfl⟩ := hg5
                      have ncbb := Lib.hid hncbb
                      clear hncbb
                      clear γ δ
                      have lt_6 := H6.out.lt
                      replace H6 := Lib.hid (H6.out.below hS lt_6)
                      have lt_7 := H7.out.lt
                      replace H7 := Lib.hid (H7.out.below hS lt_7)
                      have lt_8 := H8.out.lt
                      replace H8 := Lib.hid (H8.out.below hS lt_8)
                      have lt_10 := H10.out.lt
                      replace H10 := Lib.hid (H10.out.below hS lt_10)
                      have lt_13 := H13.out.lt
                      replace H13 := Lib.hid (H13.out.below hS lt_13)
                      have lt_14 := H14.out.lt
                      replace H14 := Lib.hid (H14.out.below hS lt_14)
                      have lt_9 := H9.out.lt
                      replace H9 := Lib.hid (H9.out.below hS lt_9)
                      replace KB := Lib.hid (KB.out.trans (hS.mono (by omega)))
                      have o6_19 : b6 < b19 := by omega
                      have o7_19 : b7 < b19 := by omega
                      have o8_19 : b8 < b19 := by omega
                      have o9_19 : b9 < b19 := by omega
                      have o10_19 : b10 < b19 := by omega
                      have o6_20 : b6 < b20 := by omega
                      have o7_20 : b7 < b20 := by omega
                      have o8_20 : b8 < b20 := by omega
                      have o9_20 : b9 < b20 := by omega
                      have o10_20 : b10 < b20 := by omega
                      refine alone 8 rfl (by kernel_rfl) (by rfl) ?_
                      intro K hK
                      refine wp_store_row 24 (.tmp 19) (.tmp 81) rfl b19 caa (by rfl) (by rfl) 24 _ G19.out (by rw [nn_size ncaa.out]; kernel_rfl) (by rw [zn_size, nn_size ncaa.out]) (nn_one ncaa.out) ?_
                      refine hK.out _ _ trivial ?_
                      clear hK K
                      try simp only [Act.put]
                      replace H6 := Lib.hid (Whole.farRow H6.out (g := b19) (by omega) caa)
                      replace H7 := Lib.hid (Whole.farRow H7.out (g := b19) (by omega) caa)
                      replace H8 := Lib.hid (Whole.farRow H8.out (g := b19) (by omega) caa)
                      replace H10 := Lib.hid (Whole.farRow H10.out (g := b19) (by omega) caa)
                      replace H9 := Lib.hid (Whole.farRow H9.out (g := b19) (by omega) caa)
                      replace G20 := Lib.hid (Whole.farRow G20.out (g := b19) (by omega) caa)
                      replace KB := Lib.hid (below_setRow KB.out (by omega) (g := b19) caa)
                      have H19 := Lib.hid (setRow_heap _ _ _ caa _ _ G19.out)
                      clear G19
                      refine alone 9 rfl (by kernel_rfl) (by rfl) ?_
                      intro K hK
                      refine wp_store_row 24 (.tmp 20) (.tmp 84) rfl b20 cbb (by rfl) (by rfl) 24 _ G20.out (by rw [nn_size ncbb.out]; kernel_rfl) (by rw [zn_size, nn_size ncbb.out]) (nn_one ncbb.out) ?_
                      refine hK.out _ _ trivial ?_
                      clear hK K
                      try simp only [Act.put]
                      replace H6 := Lib.hid (Whole.farRow H6.out (g := b20) (by omega) cbb)
                      replace H7 := Lib.hid (Whole.farRow H7.out (g := b20) (by omega) cbb)
                      replace H8 := Lib.hid (Whole.farRow H8.out (g := b20) (by omega) cbb)
                      replace H10 := Lib.hid (Whole.farRow H10.out (g := b20) (by omega) cbb)
                      replace H9 := Lib.hid (Whole.farRow H9.out (g := b20) (by omega) cbb)
                      replace H19 := Lib.hid (Whole.farRow H19.out (g := b20) (by omega) cbb)
                      replace KB := Lib.hid (below_setRow KB.out (by omega) (g := b20) cbb)
                      have H20 := Lib.hid (setRow_heap _ _ _ cbb _ _ G20.out)
                      clear G20
                      refine region_end (by kernel_rfl) ?_
                      clear H13
                      clear H14
                      first | (refine cut_post (F := Exit.then _ _) (fun X => Whole X b6 24 c6 ∧ Whole X b7 24 c9 ∧ Whole X b8 24 c10 ∧ Whole X b10 24 n10 ∧ Whole X b9 24 n9 ∧ Whole X b19 24 caa ∧ Whole X b20 24 cbb ∧ Below B w X ∧ B ≤ X.heap.size) ⟨H6.out, H7.out, H8.out, H10.out, H9.out, H19.out, H20.out, KB.out, le_heap H6.out lo6⟩ ?_) | (refine cut_post (F := Exit.inBlock _ _) (fun X => Whole X b6 24 c6 ∧ Whole X b7 24 c9 ∧ Whole X b8 24 c10 ∧ Whole X b10 24 n10 ∧ Whole X b9 24 n9 ∧ Whole X b19 24 caa ∧ Whole X b20 24 cbb ∧ Below B w X ∧ B ≤ X.heap.size) ⟨H6.out, H7.out, H8.out, H10.out, H9.out, H19.out, H20.out, KB.out, le_heap H6.out lo6⟩ ?_)
                      clear KB H6 H7 H8 H10 H9 H19 H20 hS hT lt_6 lt_7 lt_8 lt_10 lt_13 lt_14 lt_9 hge19 hge20
                      rintro yy9 ⟨k6, k7, k8, k10, k9, k19, k20, kb, hV⟩
                      have H6 := Lib.hid k6
                      have H7 := Lib.hid k7
                      have H8 := Lib.hid k8
                      have H10 := Lib.hid k10
                      have H9 := Lib.hid k9
                      have H19 := Lib.hid k19
                      have H20 := Lib.hid k20
                      have KB := Lib.hid kb
                      clear kb k6 k7 k8 k10 k9 k19 k20
                      go_wp2_with (first | (refine wpList_load_row rfl 24 (.tmp 19) rfl b19 rfl 24 caa (0, 0) _ H19.out rfl rfl (by rw [nn_size ncaa.out]; kernel_rfl) ?_) | (refine wpList_load_row rfl 24 (.tmp 20) rfl b20 rfl 24 cbb (0, 0) _ H20.out rfl rfl (by rw [nn_size ncbb.out]; kernel_rfl) ?_))
                      refine (subN (isN ncaa.out) (isN ncbb.out) _).mono ?_
                      rintro e z10 ⟨_, rfl, ⟨ce, hn, rfl⟩, hb⟩
                      have nce := Lib.hid hn
                      clear hn
                      have lt_6 := H6.out.lt
                      replace H6 := Lib.hid (H6.out.below hb lt_6)
                      have lt_7 := H7.out.lt
                      replace H7 := Lib.hid (H7.out.below hb lt_7)
                      have lt_8 := H8.out.lt
                      replace H8 := Lib.hid (H8.out.below hb lt_8)
                      have lt_10 := H10.out.lt
                      replace H10 := Lib.hid (H10.out.below hb lt_10)
                      have lt_9 := H9.out.lt
                      replace H9 := Lib.hid (H9.out.below hb lt_9)
                      have lt_19 := H19.out.lt
                      replace H19 := Lib.hid (H19.out.below hb lt_19)
                      have lt_20 := H20.out.lt
                      replace H20 := Lib.hid (H20.out.below hb lt_20)
                      have hsz := hb.size
                      replace KB := Lib.hid (KB.out.trans (hb.mono (by omega)))
                      clear hb
                      go_upto_region 20 with (refine wpList_store_row rfl 24 (.tmp 21) (.tmp 87) rfl z10.heap.size ce rfl rfl 24 _ (Whole.new _ _ _) (by rw [nn_size nce.out]; kernel_rfl) (by rw [nn_size nce.out]; rfl) (nn_one nce.out) ?_)
                      refine cut_world (fun X => Whole X b6 24 c6 ∧ Whole X b7 24 c9 ∧ Whole X b8 24 c10 ∧ Whole X b10 24 n10 ∧ Whole X b9 24 n9 ∧ Whole X b19 24 caa ∧ Whole X b20 24 cbb ∧ Whole X z10.heap.size 24 ce ∧ Below B w X ∧ B ≤ X.heap.size ∧ b6 < z10.heap.size ∧ b7 < z10.heap.size ∧ b8 < z10.heap.size ∧ b9 < z10.heap.size ∧ b10 < z10.heap.size) ⟨Whole.farRow (H6.out.alloc _) (by omega) _, Whole.farRow (H7.out.alloc _) (by omega) _, Whole.farRow (H8.out.alloc _) (by omega) _, Whole.farRow (H10.out.alloc _) (by omega) _, Whole.farRow (H9.out.alloc _) (by omega) _, Whole.farRow (H19.out.alloc _) (by omega) _, Whole.farRow (H20.out.alloc _) (by omega) _, setRow_heap _ _ _ _ _ _ (Whole.new _ _ _), below_setRow (KB.out.alloc (by omega) _) (by omega) _, le_heap (setRow_heap _ _ _ _ _ _ (Whole.new _ _ _)) (by omega), by omega, by omega, by omega, by omega, by omega⟩ ?_
                      clear KB hsz H6 H7 H8 H10 H9 H19 H20 lt_6 lt_7 lt_8 lt_10 lt_9 lt_19 lt_20
                      generalize z10.heap.size = b21
                      rintro y10 ⟨k6, k7, k8, k10, k9, k19, k20, k21, kb, hV, o6_21, o7_21, o8_21, o9_21, o10_21⟩
                      have H6 := Lib.hid k6
                      have H7 := Lib.hid k7
                      have H8 := Lib.hid k8
                      have H10 := Lib.hid k10
                      have H9 := Lib.hid k9
                      have H19 := Lib.hid k19
                      have H20 := Lib.hid k20
                      have H21 := Lib.hid k21
                      have KB := Lib.hid kb
                      clear kb k6 k7 k8 k10 k9 k19 k20 k21
                      go_wp2_with (first | (refine wpList_load_row rfl 24 (.tmp 19) rfl b19 rfl 24 caa (0, 0) _ H19.out rfl rfl (by rw [nn_size ncaa.out]; kernel_rfl) ?_) | (refine wpList_load_row rfl 24 (.tmp 20) rfl b20 rfl 24 cbb (0, 0) _ H20.out rfl rfl (by rw [nn_size ncbb.out]; kernel_rfl) ?_))
                      refine (mulN' (isN ncaa.out) (isN ncbb.out) _).mono ?_
                      rintro e z11 ⟨_, rfl, ⟨n7, hn, rfl⟩, hb⟩
                      have nn7 := Lib.hid hn
                      clear hn
                      have lt_6 := H6.out.lt
                      replace H6 := Lib.hid (H6.out.below hb lt_6)
                      have lt_7 := H7.out.lt
                      replace H7 := Lib.hid (H7.out.below hb lt_7)
                      have lt_8 := H8.out.lt
                      replace H8 := Lib.hid (H8.out.below hb lt_8)
                      have lt_10 := H10.out.lt
                      replace H10 := Lib.hid (H10.out.below hb lt_10)
                      have lt_9 := H9.out.lt
                      replace H9 := Lib.hid (H9.out.below hb lt_9)
                      have lt_19 := H19.out.lt
                      replace H19 := Lib.hid (H19.out.below hb lt_19)
                      have lt_20 := H20.out.lt
                      replace H20 := Lib.hid (H20.out.below hb lt_20)
                      have lt_21 := H21.out.lt
                      replace H21 := Lib.hid (H21.out.below hb lt_21)
                      have hsz := hb.size
                      replace KB := Lib.hid (KB.out.trans (hb.mono (by omega)))
                      clear hb
                      go_upto_region 21 with (refine wpList_store_row rfl 24 (.tmp 7) (.tmp 90) rfl b7 n7 rfl rfl 24 _ H7.out (by rw [nn_size nn7.out]; kernel_rfl) (by rw [nn_size nc9.out, nn_size nn7.out]) (nn_one nn7.out) ?_)
                      refine cut_world (fun X => Whole X b6 24 c6 ∧ Whole X b8 24 c10 ∧ Whole X b10 24 n10 ∧ Whole X b9 24 n9 ∧ Whole X b19 24 caa ∧ Whole X b21 24 ce ∧ Whole X b7 24 n7 ∧ Below B w X ∧ B ≤ X.heap.size) ⟨Whole.farRow H6.out (by omega) _, Whole.farRow H8.out (by omega) _, Whole.farRow H10.out (by omega) _, Whole.farRow H9.out (by omega) _, Whole.farRow H19.out (by omega) _, Whole.farRow H21.out (by omega) _, setRow_heap _ _ _ _ _ _ H7.out, below_setRow KB.out (by omega) _, le_heap (setRow_heap _ _ _ n7 _ _ H7.out) lo7⟩ ?_
                      clear KB hsz H6 H7 H8 H10 H9 H19 H20 H21 lt_6 lt_7 lt_8 lt_10 lt_9 lt_19 lt_20 lt_21
                      rintro y11 ⟨k6, k8, k10, k9, k19, k21, k7, kb, hV⟩
                      have H6 := Lib.hid k6
                      have H8 := Lib.hid k8
                      have H10 := Lib.hid k10
                      have H9 := Lib.hid k9
                      have H19 := Lib.hid k19
                      have H21 := Lib.hid k21
                      have H7 := Lib.hid k7
                      have KB := Lib.hid kb
                      clear kb k6 k8 k10 k9 k19 k21 k7
                      refine region_drew (fun _ => True) (by kernel_rfl) trivial ?_
                      intro hT
                      have hS : Below y11.heap.size y11 y11.drew := below_drewN (Below.refl _ _) 1
                      refine FloatB.float (W := y11) [(0, 91, .is (.agg ce)), (1, 92, .is (.agg caa)), (2, 93, .is (.agg (nc 121665))), (3, 94, .is (.agg ce)), (4, 95, .some (IsN ((kP * (((X3 + Z3) * (X3 + Z3)) - ((X3 - Z3) * (X3 - Z3))))))), (5, 96, .some (IsN ((((X3 + Z3) * (X3 + Z3)) + kP * (((X3 + Z3) * (X3 + Z3)) - ((X3 - Z3) * (X3 - Z3))))))), (6, 97, .some (IsN (((((X3 + Z3) * (X3 + Z3)) - ((X3 - Z3) * (X3 - Z3))) * (((X3 + Z3) * (X3 + Z3)) + kP * (((X3 + Z3) * (X3 + Z3)) - ((X3 - Z3) * (X3 - Z3))))))))] [0, 1, 2, 3, 4, 5, 6] 1 rfl (by rfl) (by kernel_rfl) (by kernel_rfl) (by kernel_rfl) (by kernel_rfl) (by kernel_rfl) (fun γ δ => rfl) hS (fun _ _ => trivial) (⟨fun i => match i with | 4 => .agg (nc ((kP * (((X3 + Z3) * (X3 + Z3)) - ((X3 - Z3) * (X3 - Z3))))).val) | 5 => .agg (nc ((((X3 + Z3) * (X3 + Z3)) + kP * (((X3 + Z3) * (X3 + Z3)) - ((X3 - Z3) * (X3 - Z3))))).val) | 6 => .agg (nc (((((X3 + Z3) * (X3 + Z3)) - ((X3 - Z3) * (X3 - Z3))) * (((X3 + Z3) * (X3 + Z3)) + kP * (((X3 + Z3) * (X3 + Z3)) - ((X3 - Z3) * (X3 - Z3)))))).val) | _ => undef, isN_self _, isN_self _, isN_self _, trivial⟩) ?_ ?_
                      · intro γ δ hgd
                        simp only [FloatB.puts, Act.put, List.setIfInBounds_toArray, List.set_cons_zero, List.set_cons_succ]
                        obtain ⟨hg4, hg5, hg6, -⟩ := hgd
                        refine ⟨?_, ?_, ?_, ?_, ?_, ?_, ?_, trivial⟩
                        · exact ⟨_, _, rfl, FloatB.does_take (fun w hw => run_load_op 24 (.tmp 21) rfl b21 rfl (H21.out.below hw H21.out.lt) rfl rfl (by rw [nn_size nce.out]; kernel_rfl))⟩
                        · exact ⟨_, _, rfl, FloatB.does_take (fun w hw => run_load_op 24 (.tmp 19) rfl b19 rfl (H19.out.below hw H19.out.lt) rfl rfl (by rw [nn_size ncaa.out]; kernel_rfl))⟩
                        · exact ⟨_, _, rfl, FloatB.does_call 25 (#[.int .u32 121665]) (by intro w; go_simp; try with_reducible rfl) (fun w hw => RefF.small_any 121665 (by omega) w)⟩
                        · exact ⟨_, _, rfl, FloatB.does_take (fun w hw => run_load_op 24 (.tmp 21) rfl b21 rfl (H21.out.below hw H21.out.lt) rfl rfl (by rw [nn_size nce.out]; kernel_rfl))⟩
                        · exact ⟨_, _, rfl, FloatB.does_some 23 (#[(.agg (nc 121665)), (.agg ce)]) (by intro w; go_simp; try with_reducible rfl) (fun w hw => mulN' sm_kP (isN nce.out) w)⟩
                        · exact ⟨_, _, rfl, FloatB.does_some 16 (#[(.agg caa), (δ 4)]) (by intro w; go_simp; try with_reducible rfl) (fun w hw => addN (isN ncaa.out) hg4 w)⟩
                        · exact ⟨_, _, rfl, FloatB.does_some 23 (#[(.agg ce), (δ 5)]) (by intro w; go_simp; try with_reducible rfl) (fun w hw => mulN' (isN nce.out) hg5 w)⟩
                      · intro γ δ v hS hgd hrows hne
                        simp only [FloatB.puts, Act.put, List.setIfInBounds_toArray, List.set_cons_zero, List.set_cons_succ]
                        obtain ⟨hg4, hg5, hg6, -⟩ := hgd
                        clear hne hrows
                        generalize δ 4 = dv4 at *
                        obtain ⟨cke, hncke, rfl⟩ := hg4
                        have ncke := Lib.hid hncke
                        clear hncke
                        generalize δ 5 = dv5 at *
                        obtain ⟨cak, hncak, rfl⟩ := hg5
                        have ncak := Lib.hid hncak
                        clear hncak
                        generalize δ 6 = dv6 at *
                        obtain ⟨n8, hnn8, rfl⟩ := hg6
                        have nn8 := Lib.hid hnn8
                        clear hnn8
                        clear γ δ
                        have lt_6 := H6.out.lt
                        replace H6 := Lib.hid (H6.out.below hS lt_6)
                        have lt_8 := H8.out.lt
                        replace H8 := Lib.hid (H8.out.below hS lt_8)
                        have lt_10 := H10.out.lt
                        replace H10 := Lib.hid (H10.out.below hS lt_10)
                        have lt_9 := H9.out.lt
                        replace H9 := Lib.hid (H9.out.below hS lt_9)
                        have lt_19 := H19.out.lt
                        replace H19 := Lib.hid (H19.out.below hS lt_19)
                        have lt_21 := H21.out.lt
                        replace H21 := Lib.hid (H21.out.below hS lt_21)
                        have lt_7 := H7.out.lt
                        replace H7 := Lib.hid (H7.out.below hS lt_7)
                        replace KB := Lib.hid (KB.out.trans (hS.mono (by omega)))
                        refine alone 7 rfl (by kernel_rfl) (by rfl) ?_
                        intro K hK
                        refine wp_store_row 24 (.tmp 8) (.tmp 97) rfl b8 n8 (by rfl) (by rfl) 24 _ H8.out (by rw [nn_size nn8.out]; kernel_rfl) (by rw [nn_size nc10.out, nn_size nn8.out]) (nn_one nn8.out) ?_
                        refine hK.out _ _ trivial ?_
                        clear hK K
                        try simp only [Act.put]
                        replace H6 := Lib.hid (Whole.farRow H6.out (g := b8) (by omega) n8)
                        replace H10 := Lib.hid (Whole.farRow H10.out (g := b8) (by omega) n8)
                        replace H9 := Lib.hid (Whole.farRow H9.out (g := b8) (by omega) n8)
                        replace H7 := Lib.hid (Whole.farRow H7.out (g := b8) (by omega) n8)
                        replace KB := Lib.hid (below_setRow KB.out (by omega) (g := b8) n8)
                        replace H8 := Lib.hid (setRow_heap _ _ _ n8 _ _ H8.out)
                        refine region_end (by kernel_rfl) ?_
                        clear H19
                        clear H21
                        first | (refine cut_post (F := Exit.then _ _) (fun X => Whole X b6 24 c6 ∧ Whole X b8 24 n8 ∧ Whole X b10 24 n10 ∧ Whole X b9 24 n9 ∧ Whole X b7 24 n7 ∧ Below B w X ∧ B ≤ X.heap.size) ⟨H6.out, H8.out, H10.out, H9.out, H7.out, KB.out, le_heap H6.out lo6⟩ ?_) | (refine cut_post (F := Exit.inBlock _ _) (fun X => Whole X b6 24 c6 ∧ Whole X b8 24 n8 ∧ Whole X b10 24 n10 ∧ Whole X b9 24 n9 ∧ Whole X b7 24 n7 ∧ Below B w X ∧ B ≤ X.heap.size) ⟨H6.out, H8.out, H10.out, H9.out, H7.out, KB.out, le_heap H6.out lo6⟩ ?_)
                        clear KB H6 H8 H10 H9 H7 hS hT lt_6 lt_8 lt_10 lt_9 lt_19 lt_21 lt_7
                        rintro yy12 ⟨k6, k8, k10, k9, k7, kb, hV⟩
                        have H6 := Lib.hid k6
                        have H8 := Lib.hid k8
                        have H10 := Lib.hid k10
                        have H9 := Lib.hid k9
                        have H7 := Lib.hid k7
                        have KB := Lib.hid kb
                        clear kb k6 k8 k10 k9 k7
                        go_upto_region 23 with fail
                        refine region_drew (fun _ => True) (by kernel_rfl) trivial ?_
                        intro hT
                        refine FloatC.go' (Sw4 w B b7 b8 b9 b10 n7 n8 n9 n10 (fun Z => Whole Z b6 24 c6)) (fun i => match i with | 0 => .agg n9 | 1 => .agg n10 | 2 => .agg n7 | 3 => .agg n8 | _ => undef) [0, 1, 2, 3, 4, 5, 6, 7] [(99, .agg n9), (100, .agg n10), (101, .agg n7), (102, .agg n8)] 0 (by rfl) (by kernel_rfl) (by kernel_rfl) (by kernel_rfl) (by kernel_rfl) (by kernel_rfl) rfl ⟨⟨fun _ => H7.out.drew, fun h => absurd (by decide) h⟩, ⟨fun _ => H8.out.drew, fun h => absurd (by decide) h⟩, ⟨fun _ => H9.out.drew, fun h => absurd (by decide) h⟩, ⟨fun _ => H10.out.drew, fun h => absurd (by decide) h⟩, Below.drew KB.out, H6.out.drew⟩ (fun _ _ _ => trivial) ?_ ?_
                        · intro i hi oo hoo pend Z hnd hip hwait hs
                          simp only [FloatC.putv, Act.put, List.setIfInBounds_toArray, List.set_cons_zero, List.set_cons_succ]
                          have hcase : i = 0 ∨ i = 1 ∨ i = 2 ∨ i = 3 ∨ i = 4 ∨ i = 5 ∨ i = 6 ∨ i = 7 := by simpa using hi
                          clear hi
                          rcases hcase with rfl | rfl | rfl | rfl | rfl | rfl | rfl | rfl
                          · have ho' := Option.some.inj hoo
                            subst ho'
                            have hm : 6 ∈ pend := hwait 6 (by decide) _ rfl (by kernel_rfl)
                            have hl := hs.r3.1 hm
                            exact ⟨_, _, run_load_op 24 (.tmp 9) rfl b9 rfl hl rfl rfl (by rw [nn_size nn9.out]; kernel_rfl), .inl rfl, hs.skip 0 (by decide)⟩
                          · have ho' := Option.some.inj hoo
                            subst ho'
                            have hm : 7 ∈ pend := hwait 7 (by decide) _ rfl (by kernel_rfl)
                            have hl := hs.r4.1 hm
                            exact ⟨_, _, run_load_op 24 (.tmp 10) rfl b10 rfl hl rfl rfl (by rw [nn_size nn10.out]; kernel_rfl), .inl rfl, hs.skip 1 (by decide)⟩
                          · have ho' := Option.some.inj hoo
                            subst ho'
                            have hm : 4 ∈ pend := hwait 4 (by decide) _ rfl (by kernel_rfl)
                            have hl := hs.r1.1 hm
                            exact ⟨_, _, run_load_op 24 (.tmp 7) rfl b7 rfl hl rfl rfl (by rw [nn_size nn7.out]; kernel_rfl), .inl rfl, hs.skip 2 (by decide)⟩
                          · have ho' := Option.some.inj hoo
                            subst ho'
                            have hm : 5 ∈ pend := hwait 5 (by decide) _ rfl (by kernel_rfl)
                            have hl := hs.r2.1 hm
                            exact ⟨_, _, run_load_op 24 (.tmp 8) rfl b8 rfl hl rfl rfl (by rw [nn_size nn8.out]; kernel_rfl), .inl rfl, hs.skip 3 (by decide)⟩
                          · have ho' := Option.some.inj hoo
                            subst ho'
                            have hl := hs.r1.1 hip
                            refine ⟨_, _, FloatC.run_store_op 24 (.tmp 7) (.tmp 99) rfl b7 n9 rfl rfl 24 n7 hl (by rw [nn_size nn9.out]; kernel_rfl) (by rw [nn_size nn7.out, nn_size nn9.out]) (nn_one nn9.out), .inr ⟨rfl, rfl⟩, ?_⟩
                            obtain ⟨q1, q2, q3, q4, q5, q6⟩ := hs
                            exact ⟨done hnd (setRow_heap _ _ _ _ _ _ hl), keepF q2 (by decide) (fun h => Whole.farRow h (by omega) _) (fun h => Whole.farRow h (by omega) _), keepF q3 (by decide) (fun h => Whole.farRow h (by omega) _) (fun h => Whole.farRow h (by omega) _), keepF q4 (by decide) (fun h => Whole.farRow h (by omega) _) (fun h => Whole.farRow h (by omega) _), below_setRow q5 (by omega) _, Whole.farRow q6 (by omega) _⟩
                          · have ho' := Option.some.inj hoo
                            subst ho'
                            have hl := hs.r2.1 hip
                            refine ⟨_, _, FloatC.run_store_op 24 (.tmp 8) (.tmp 100) rfl b8 n10 rfl rfl 24 n8 hl (by rw [nn_size nn10.out]; kernel_rfl) (by rw [nn_size nn8.out, nn_size nn10.out]) (nn_one nn10.out), .inr ⟨rfl, rfl⟩, ?_⟩
                            obtain ⟨q1, q2, q3, q4, q5, q6⟩ := hs
                            exact ⟨keepF q1 (by decide) (fun h => Whole.farRow h (by omega) _) (fun h => Whole.farRow h (by omega) _), done hnd (setRow_heap _ _ _ _ _ _ hl), keepF q3 (by decide) (fun h => Whole.farRow h (by omega) _) (fun h => Whole.farRow h (by omega) _), keepF q4 (by decide) (fun h => Whole.farRow h (by omega) _) (fun h => Whole.farRow h (by omega) _), below_setRow q5 (by omega) _, Whole.farRow q6 (by omega) _⟩
                          · have ho' := Option.some.inj hoo
                            subst ho'
                            have hl := hs.r3.1 hip
                            refine ⟨_, _, FloatC.run_store_op 24 (.tmp 9) (.tmp 101) rfl b9 n7 rfl rfl 24 n9 hl (by rw [nn_size nn7.out]; kernel_rfl) (by rw [nn_size nn9.out, nn_size nn7.out]) (nn_one nn7.out), .inr ⟨rfl, rfl⟩, ?_⟩
                            obtain ⟨q1, q2, q3, q4, q5, q6⟩ := hs
                            exact ⟨keepF q1 (by decide) (fun h => Whole.farRow h (by omega) _) (fun h => Whole.farRow h (by omega) _), keepF q2 (by decide) (fun h => Whole.farRow h (by omega) _) (fun h => Whole.farRow h (by omega) _), done hnd (setRow_heap _ _ _ _ _ _ hl), keepF q4 (by decide) (fun h => Whole.farRow h (by omega) _) (fun h => Whole.farRow h (by omega) _), below_setRow q5 (by omega) _, Whole.farRow q6 (by omega) _⟩
                          · have ho' := Option.some.inj hoo
                            subst ho'
                            have hl := hs.r4.1 hip
                            refine ⟨_, _, FloatC.run_store_op 24 (.tmp 10) (.tmp 102) rfl b10 n8 rfl rfl 24 n10 hl (by rw [nn_size nn8.out]; kernel_rfl) (by rw [nn_size nn10.out, nn_size nn8.out]) (nn_one nn8.out), .inr ⟨rfl, rfl⟩, ?_⟩
                            obtain ⟨q1, q2, q3, q4, q5, q6⟩ := hs
                            exact ⟨keepF q1 (by decide) (fun h => Whole.farRow h (by omega) _) (fun h => Whole.farRow h (by omega) _), keepF q2 (by decide) (fun h => Whole.farRow h (by omega) _) (fun h => Whole.farRow h (by omega) _), keepF q3 (by decide) (fun h => Whole.farRow h (by omega) _) (fun h => Whole.farRow h (by omega) _), done hnd (setRow_heap _ _ _ _ _ _ hl), below_setRow q5 (by omega) _, Whole.farRow q6 (by omega) _⟩
                        · intro Z hs
                          simp only [FloatC.putv, Act.put, List.setIfInBounds_toArray, List.set_cons_zero, List.set_cons_succ]
                          clear H6
                          clear H8
                          clear H10
                          clear H9
                          clear H7
                          clear KB
                          have H7 := Lib.hid (hs.r1.2 (by simp))
                          have H8 := Lib.hid (hs.r2.2 (by simp))
                          have H9 := Lib.hid (hs.r3.2 (by simp))
                          have H10 := Lib.hid (hs.r4.2 (by simp))
                          have H6 := Lib.hid (hs.oth)
                          have KB := Lib.hid hs.bel
                          clear hs hT
                          refine region_end (by kernel_rfl) ?_
                          first | (refine cut_post (F := Exit.then _ _) (fun X => Whole X b6 24 c6 ∧ Whole X b8 24 n10 ∧ Whole X b10 24 n8 ∧ Whole X b9 24 n7 ∧ Whole X b7 24 n9 ∧ Below B w X ∧ B ≤ X.heap.size) ⟨H6.out, H8.out, H10.out, H9.out, H7.out, KB.out, le_heap H6.out lo6⟩ ?_) | (refine cut_post (F := Exit.inBlock _ _) (fun X => Whole X b6 24 c6 ∧ Whole X b8 24 n10 ∧ Whole X b10 24 n8 ∧ Whole X b9 24 n7 ∧ Whole X b7 24 n9 ∧ Below B w X ∧ B ≤ X.heap.size) ⟨H6.out, H8.out, H10.out, H9.out, H7.out, KB.out, le_heap H6.out lo6⟩ ?_)
                          clear KB H6 H8 H10 H9 H7 
                          rintro yy13 ⟨k6, k8, k10, k9, k7, kb, hV⟩
                          have H6 := Lib.hid k6
                          have H8 := Lib.hid k8
                          have H10 := Lib.hid k10
                          have H9 := Lib.hid k9
                          have H7 := Lib.hid k7
                          have KB := Lib.hid kb
                          clear kb k6 k8 k10 k9 k7
                          have HE := Lib.hid (show RefW w B b6 b7 b8 b9 b10 u (roundF kP u 1 ⟨X2, Z2, X3, Z3⟩) _ from ⟨c6, n9, n10, n7, n8, nc6.out, nn9.out, nn10.out, nn7.out, nn8.out, H6.out, H7.out, H8.out, H9.out, H10.out, KB.out⟩)
                          clear H6 H7 H8 H9 H10 KB
                          rw [← HNX.out] at HE
                          go_wp2_with fail
                          go_roundw
                          case rel => exact ⟨n + 1, by omega, congrArg (Value.int .i64) (by have := HP.out; omega), HE.out⟩
                          case measure => have := HP.out; simp [intOf]; try omega
      · obtain rfl : n = 255 := by omega
        rw [show (254 : Int) - ((255 : Nat) : Int) = -1 by omega]
        have n7 := Lib.hid m7
        have n8 := Lib.hid m8
        have F7 := Lib.hid k7
        have F8 := Lib.hid k8
        have KB := Lib.hid kb
        have hlad := lad_is E u
        have HL := Lib.hid hlad
        clear m6 m7 m8 m9 m10 k6 k7 k8 k9 k10 kb HST hlad
        go_upto_region 24 with fail
        refine region_drew (fun x => Below wr.heap.size wr x) (by kernel_rfl) (Below.drew (Below.refl _ _)) ?_
        intro hS
        refine take 0 _ rfl (by kernel_rfl) (by kernel_rfl) (by kernel_rfl) (fun _ _ _ h => h) (by rfl) hS (fun w hw => run_load_op 24 (.tmp 7) rfl (b7) rfl (F7.out.below hw F7.out.lt) rfl rfl (by rw [nn_size n7.out]; kernel_rfl)) ?_
        try simp only [Act.put, List.setIfInBounds_toArray, List.set_cons_zero, List.set_cons_succ]
        refine take 1 _ rfl (by kernel_rfl) (by kernel_rfl) (by kernel_rfl) (fun _ _ _ h => h) (by rfl) hS (fun w hw => run_load_op 24 (.tmp 8) rfl (b8) rfl (F8.out.below hw F8.out.lt) rfl rfl (by rw [nn_size n8.out]; kernel_rfl)) ?_
        try simp only [Act.put, List.setIfInBounds_toArray, List.set_cons_zero, List.set_cons_succ]
        refine alone 2 rfl (by kernel_rfl) (by rfl) ?_
        intro K hK
        go_simp
        refine (invN (isN n8.out) _).mono ?_
        rintro e q2 ⟨_, rfl, ⟨ci, hni, rfl⟩, hb⟩
        have nci := Lib.hid hni
        clear hni
        go_simp
        replace hS := below_trans hS hb
        refine hK.out _ _ hS ?_
        clear hK hb K
        try simp only [Act.put, List.setIfInBounds_toArray, List.set_cons_zero, List.set_cons_succ]
        refine alone 3 rfl (by kernel_rfl) (by rfl) ?_
        intro K hK
        go_simp
        refine (mulN' (isN n7.out) (isN nci.out) _).mono ?_
        rintro e q3 ⟨_, rfl, ⟨cm, hnm, rfl⟩, hb⟩
        have ncm := Lib.hid hnm
        clear hnm
        go_simp
        replace hS := below_trans hS hb
        refine hK.out _ _ hS ?_
        clear hK hb K
        try simp only [Act.put, List.setIfInBounds_toArray, List.set_cons_zero, List.set_cons_succ]
        refine alone 4 rfl (by kernel_rfl) (by rfl) ?_
        intro K hK
        go_simp
        refine (bytesN (isN ncm.out) _).mono ?_
        rintro e q4 ⟨A2, cc2, rfl, oc, hb⟩
        have OC := Lib.hid (oc.more (le_below hS))
        clear oc
        go_simp
        replace hS := below_trans hS hb
        refine hK.out _ _ hS ?_
        clear hK hb K
        try simp only [Act.put, List.setIfInBounds_toArray, List.set_cons_zero, List.set_cons_succ]
        refine take 5 _ rfl (by kernel_rfl) (by kernel_rfl) (by kernel_rfl) (fun _ _ _ h => h) (by rfl) hS (by intro w _; go_simp; with_reducible rfl) ?_
        try simp only [Act.put, List.setIfInBounds_toArray, List.set_cons_zero, List.set_cons_succ]
        refine region_end (by kernel_rfl) ?_
        have hBw : B ≤ wr.heap.size := by rw [← hB]; exact KB.out.size
        have hwB : w0.heap.size ≤ B := by rw [← hB]; exact HB0.out.size
        have HB9 := Lib.hid (HB0.out.trans ((KB.out.trans (hS.mono hBw)).mono hwB))
        have HOW := Lib.hid (OC.out.more (Nat.le_trans hwB hBw))
        clear hS OC KB
        rw [HL.out] at HOW
        go_wp2_with fail
        go_ret
        exact ⟨A2, cc2, rfl, HOW.out, HB9.out⟩

end RefC
end Go.Proofs.Ytnopjjkijedpeaa
