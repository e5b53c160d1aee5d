/- The document's own Mask, of a prefix whose digits may be; RightPrefix. -/
import Derived.Test.YtcpfchfhcfdcpaaCdRefC
namespace Go.Proofs.Ytcpfchfhcfdcpaa
namespace Tri
open Go.ChangeShapes Go.WideShapes Go.ChangeAt Go.RowKit
open Num Mem Words Chacha Aead Poly Quiet Ops Adr RowS

theorem mask_none0 {f : Nat → Nat} (hf : ∀ i, f i < 256) (i : Nat) : maskF ((0 : Nat) : Int) f i = 0 := by
  rw [show ((0 : Nat) : Int) = 0 from rfl, maskF_none, top_none (hf i)]
/-- one digit more -/
def stepF (k : Nat) (f : Nat → Nat) (v i : Nat) : Nat := if i = k / 8 then v else maskF (k : Int) f i
theorem stepF_yes {f : Nat → Nat} (hf : ∀ i, f i < 256) (k : Nat) (h : f (k / 8) / 2 ^ (7 - k % 8) % 2 = 1) : stepF k f (maskF (k : Int) f (k / 8) + 128 / 2 ^ (k % 8)) = maskF ((k + 1 : Nat) : Int) f := by
  funext i
  unfold stepF
  by_cases e : i = k / 8
  · rw [if_pos e, (maskF_add hf k).1 h, e]
  · rw [if_neg e, maskF_other f k i e]
theorem step_no {f : Nat → Nat} (hf : ∀ i, f i < 256) (k : Nat) (h : ¬ f (k / 8) / 2 ^ (7 - k % 8) % 2 = 1) : maskF (k : Int) f = maskF ((k + 1 : Nat) : Int) f := by
  funext i
  by_cases e : i = k / 8
  · rw [e]; exact (maskF_add hf k).2 (by omega)
  · exact (maskF_other f k i e).symm
structure MoW (w : World) (B g : Nat) (L : List Value) (Z M : Array Value) (X : World) : Prop where
  base : MkW w B L Z X
  out : Whole X g 29 M
  far : B + 1 < g
theorem MoW.below {w : World} {B g : Nat} {L : List Value} {Z M : Array Value} {X Y : World} (h : MoW w B g L Z M X) (hb : Below X.heap.size X Y) : MoW w B g L Z M Y := ⟨h.base.below hb, h.out.below hb h.out.lt, h.far⟩
set_option maxRecDepth 100000 in
set_option maxHeartbeats 4000000 in
theorem rMask_ok (s : Bool) (f : Nat → Nat) (hf : ∀ i, f i < 256) (z : Int) (hr : rightB s f = true) (hneg : 0 ≤ z) (hfar : z ≤ digitsI s) (w : World) :
    Calls Try.prog 53 #[.agg (prefL s f z).toArray] w fun e w' => e = .returned (.tuple #[maskV s f z, .int .i64 (maskE s f z : Nat)]) ∧ Below w.heap.size w w' := by
  have HBI := Lib.hid (fun (n : Nat) (hn : (n : Int) < digitsI s) (X : World) => rBit_any s f hf hr n hn X)
  have HAB := Lib.hid (addr_built1 s)
  have HPB := Lib.hid (pref_built2 s nought z)
  have HPO := Lib.hid (fun F => pref_one s F z)
  have HPS := Lib.hid (fun F => pref_size s F z)
  have HPN := Lib.hid (show prefL s nought z = prefL s (maskF ((0 : Nat) : Int) f) z from pref_congr fun i _ => (mask_none0 hf i).symm)
  have HF := Lib.hid hf
  have HB0 := Lib.hid pref_built0
  have HO := Lib.hid (pref_one false nought 0)
  have hz : ∀ w, (zeroValue 29).run Try.prog w = .ok (.agg (prefL false nought 0).toArray) w := zero_pref
  have HZS := Lib.hid (show (prefL false nought 0).toArray.size = 18 from pref_size _ _ _)
  have HPR := Lib.hid (show ∀ X T, Whole X w.heap.size T (prefL s f z).toArray → X.rangeAt w.heap.size 0 (addrL s f) from fun X T h => pref_range h)
  have HC := Lib.hid (show ∀ X T, Whole X w.heap.size T (prefL s f z).toArray → X.cell? ⟨w.heap.size, 0, none⟩ = some (.bool s) ∧ X.cell? ⟨w.heap.size, 17, none⟩ = some (.int .i64 z) from fun X T h => ⟨by rw [h.cell, List.getElem?_toArray]; rfl, by rw [h.cell, List.getElem?_toArray]; exact pref_bits _ _ _⟩)
  have HRI := Lib.hid (fun X => rRight_any s f hf X)
  have HSI := Lib.hid (fun X => rSize_any s f X)
  have HA := Lib.hid (addrL_length s f)
  rw [hr] at HRI
  have HV := Lib.hid (show maskV s f z = .agg (prefL (mS s f z) (mF s f z) (mZ s f z)).toArray from rfl)
  obtain ⟨V, hV⟩ : ∃ V, maskV s f z = V := ⟨_, rfl⟩
  obtain ⟨E, hE⟩ : ∃ E, maskE s f z = E := ⟨_, rfl⟩
  rw [hV, hE]
  rw [hV] at HV
  have HE := Lib.hid hE
  obtain ⟨A, hA⟩ : ∃ L, addrL s f = L := ⟨_, rfl⟩
  have HAE := Lib.hid hA
  rw [hA] at HPR HRI HSI HA
  obtain ⟨L, hL⟩ : ∃ L, prefL s f z = L := ⟨_, rfl⟩
  have HLE := Lib.hid hL
  rw [hL] at HPR HC ⊢
  obtain ⟨Z, hZ⟩ : ∃ Z, (prefL false nought 0).toArray = Z := ⟨_, rfl⟩
  have HZE := Lib.hid hZ
  rw [hZ] at HB0 HO HZS hz
  clear hV hE hA hL hZ hf
  go_enter Try.func53, Try.ntmps53
  go_upto_region 1 with fail
  refine cut_world (fun X => MkW w w.heap.size L Z X) ⟨(Whole.new _ _ _).alloc _, whole_new _ _ (by simp), below_alloc (below_alloc (Below.refl _ _) _) _⟩ ?_
  intro W hW
  generalize hB : w.heap.size = B at hW HPR HC ⊢
  have HB := Lib.hid hB
  have HW := Lib.hid hW
  clear hB hW
  have HBIT := HBI
  rw [HAE.out] at HBIT
  clear HBI
  have hd2 : decide (digitsI s < z) = false := decide_eq_false (by omega)
  have HRG := Lib.hid (HPR.out _ _ HW.out.arg)
  have hd : decide (z < 0) = false := decide_eq_false (by omega)
  go_upto_region 3 with (first
    | (refine wpList_load_mid rfl 27 (.tmp 6) rfl B 0 rfl A _ HRG.out rfl rfl (by rw [HA.out]; kernel_rfl) ?_)
    | (go_at_call 44; refine (HRI.out _).mono ?_; rintro e w1 ⟨rfl, hb1⟩; have HW1 := Lib.hid (HW.out.below hb1); clear hb1))
  have H17 := Lib.hid (show ∀ X, Below w1.heap.size w1 X → X.cell? ⟨B, 17, none⟩ = some (.int .i64 z) from fun X hx => (HC.out _ _ (HW1.out.below hx).arg).2)
  refine q_start (by kernel_rfl) (by kernel_rfl) ?_
  refine Ops.wq_in ?_
  refine Ops.wq_take _ (by rfl) (fun X hx => by go_simp; try with_reducible rfl) ?_
  try simp only [Act.put, List.setIfInBounds_toArray, List.set_cons_zero, List.set_cons_succ]
  refine Ops.wq_take _ (by rfl) (fun X hx => by have cl := H17.out X hx; go_simp; try with_reducible rfl) ?_
  try simp only [Act.put, List.setIfInBounds_toArray, List.set_cons_zero, List.set_cons_succ]
  refine Ops.wq_take (.bool false) (by rfl) (fun X hx => by go_simp; try with_reducible rfl) ?_
  try simp only [Act.put, List.setIfInBounds_toArray, List.set_cons_zero, List.set_cons_succ]
  refine Ops.wq_take _ (by rfl) (fun X hx => by go_simp; try with_reducible rfl) ?_
  try simp only [Act.put, List.setIfInBounds_toArray, List.set_cons_zero, List.set_cons_succ]
  refine Ops.wq_take _ (by rfl) (fun X hx => by go_simp; try with_reducible rfl) ?_
  try simp only [Act.put, List.setIfInBounds_toArray, List.set_cons_zero, List.set_cons_succ]
  refine Ops.wq_take _ (by rfl) (fun X hx => by have cl := H17.out X hx; go_simp; try with_reducible rfl) ?_
  try simp only [Act.put, List.setIfInBounds_toArray, List.set_cons_zero, List.set_cons_succ]
  refine Ops.wq_take _ (by rfl) (fun X hx => by go_simp; try with_reducible rfl) ?_
  try simp only [Act.put, List.setIfInBounds_toArray, List.set_cons_zero, List.set_cons_succ]
  refine Ops.wq_take (.agg A.toArray) (by rfl) (fun X hx => run_mid_in 27 (.tmp 17) rfl B 0 rfl A _ (HPR.out X _ (HW1.out.below hx).arg) rfl rfl (by rw [HA.out]; kernel_rfl)) ?_
  try simp only [Act.put, List.setIfInBounds_toArray, List.set_cons_zero, List.set_cons_succ]
  refine Ops.wq_call (.int .i64 (digitsI s)) 54 #[.agg A.toArray] (by rfl) (by intro w; go_simp; try with_reducible rfl) (fun X hx => (HSI.out X).mono (fun e w' ⟨h1, h2⟩ => ⟨h1, below_trans hx h2⟩)) ?_
  try simp only [Act.put, List.setIfInBounds_toArray, List.set_cons_zero, List.set_cons_succ]
  refine Ops.wq_take (.bool false) (by rfl) (fun X hx => by go_simp; try with_reducible rfl) ?_
  try simp only [Act.put, List.setIfInBounds_toArray, List.set_cons_zero, List.set_cons_succ]
  refine Ops.wq_take (.bool false) (by rfl) (fun X hx => by go_simp; try with_reducible rfl) ?_
  try simp only [Act.put, List.setIfInBounds_toArray, List.set_cons_zero, List.set_cons_succ]
  refine Ops.wq_end ?_
  intro w2 hb2
  have HW2 := Lib.hid (HW1.out.below hb2)
  clear HW1 hb2 HRG H17
  have HDI := Lib.hid (digits_le s)
  have HFAR := Lib.hid hfar
  clear hd hd2 hfar
  obtain ⟨m, rfl⟩ : ∃ m : Nat, z = (m : Int) := ⟨z.toNat, by omega⟩
  have hm : m ≤ 128 := by have := HFAR.out; have := HDI.out; omega
  have hc0 := (HC.out _ _ HW2.out.arg).1
  have hc17 := (HC.out _ _ HW2.out.arg).2
  clear hneg
  obtain ⟨AN, hAN⟩ : ∃ AN, (addrL s nought).toArray = AN := ⟨_, rfl⟩
  obtain ⟨PN, hPN⟩ : ∃ PN, (prefL s nought m).toArray = PN := ⟨_, rfl⟩
  have HPNE := Lib.hid hPN
  rw [hAN] at HAB HPB
  rw [hPN] at HPB
  have HPOO := Lib.hid (hPN ▸ HPO.out nought)
  have HPSS := Lib.hid (hPN ▸ HPS.out nought)
  clear hAN hPN
  go_upto_region 6 with (first
    | (refine wpList_built1 rfl 27 0 (.tmp 25) rfl (.bool s) rfl AN HAB.out ?_)
    | (refine wpList_built2' rfl 29 0 1 (.tmp 26) (.tmp 28) rfl (.agg AN) (.int .i64 m) rfl rfl PN HPB.out ?_)
    | (refine wpList_store_row rfl 29 (.tmp 4) (.tmp 29) rfl w2.heap.size PN rfl rfl 29 _ (Whole.new _ _ _) (by rw [HPSS.out]; kernel_rfl) (by rw [HPSS.out, HZS.out]) HPOO.out ?_))
  have hlt := HW2.out.res.lt
  refine cut_world (fun X => MoW w B w2.heap.size L Z (prefL s (maskF ((0 : Nat) : Int) f) m).toArray X) ⟨⟨Whole.farRow (HW2.out.arg.alloc _) (by omega) _, Whole.farRow (HW2.out.res.alloc _) (by omega) _, below_setRow (below_alloc' HW2.out.bel (by omega) _) (by omega) _⟩, by rw [← HPN.out, HPNE.out]; exact setRow_heap _ _ _ _ _ _ (Whole.new _ _ _), hlt⟩ ?_
  generalize w2.heap.size = g
  clear hlt hc0 hc17 HW2 hz
  clear w2
  intro X3 hX3
  have HX3 := Lib.hid hX3
  clear hX3
  go_wp2_with fail
  go_loopw [5] (fun i X => ∃ k : Nat, k ≤ m ∧ i = .int .i64 k ∧ MoW w B g L Z (prefL s (maskF (k : Int) f) m).toArray X) (fun i _ => m - (intOf i).toNat)
  case atStart => exact ⟨0, Nat.zero_le _, rfl, HX3.out⟩
  case round =>
    obtain ⟨k, hk, rfl, hX⟩ := hrel
    have HX := Lib.hid hX
    clear hX HX3
    have hc17 := (HC.out _ _ HX.out.base.arg).2
    by_cases hlt : k < m
    · have HR2 := Lib.hid (HPR.out _ _ HX.out.base.arg)
      have HBK := Lib.hid (HBIT.out k (by have := HFAR.out; omega))
      obtain ⟨b, hb⟩ : ∃ b, f (k / 8) / 2 ^ (7 - k % 8) % 2 = b := ⟨_, rfl⟩
      rw [hb] at HBK
      have HBB := Lib.hid hb
      clear hb
      by_cases hb1 : b = 1
      · subst hb1
        go_upto_region 10 with (first
          | (refine wpList_load_mid rfl 27 (.tmp 36) rfl B 0 rfl A _ HR2.out rfl rfl (by rw [HA.out]; kernel_rfl) ?_)
          | (go_at_call 45; refine (HBK.out _).mono ?_; rintro e w4 ⟨rfl, hb4⟩; have HX4 := Lib.hid (HX.out.below hb4); clear hb4))
        have hk16 : k / 8 < 16 := by omega
        have hcell : w4.cell? ⟨g, 1 + k / 8, none⟩ = some (.int .u8 (maskF (k : Int) f (k / 8) : Nat)) := by rw [HX4.out.out.cell, List.getElem?_toArray, pref_byte _ _ _ _ hk16]
        have hfr := HX4.out.out.free (1 + k / 8)
        have hq1 : (k : Int).tdiv 8 = ((k / 8 : Nat) : Int) := by rw [Int.tdiv_eq_ediv_of_nonneg (by omega)]; omega
        have hq2 : (k : Int) / 8 = ((k / 8 : Nat) : Int) := by omega
        have hr1 : (k : Int).tmod 8 = ((k % 8 : Nat) : Int) := by rw [Int.tmod_eq_emod_of_nonneg (by omega)]; omega
        have hr2 : (k : Int) % 8 = ((k % 8 : Nat) : Int) := by omega
        have hm8 : k % 8 < 8 := by omega
        have hsum := (maskF_add HF.out k).1 HBB.out
        have hsl := maskF_lt HF.out ((k + 1 : Nat) : Int) (k / 8)
        have hup := stepF_yes HF.out k HBB.out
        have hset := pref_set s (maskF (k : Int) f) m (k / 8) (maskF (k : Int) f (k / 8) + 128 / 2 ^ (k % 8)) hk16
        rw [show (fun i => if i = k / 8 then maskF (k : Int) f (k / 8) + 128 / 2 ^ (k % 8) else maskF (k : Int) f i) = stepF k f (maskF (k : Int) f (k / 8) + 128 / 2 ^ (k % 8)) from rfl, hup] at hset
        have HSET := Lib.hid hset
        rw [hsum] at HSET
        rw [← hsum] at hsl
        have h128 := shr_128 (k % 8) hm8
        obtain ⟨x, hx⟩ : ∃ x, maskF (k : Int) f (k / 8) = x := ⟨_, rfl⟩
        obtain ⟨y, hy⟩ : ∃ y, 128 / 2 ^ (k % 8) = y := ⟨_, rfl⟩
        obtain ⟨q, hq⟩ : ∃ q, k / 8 = q := ⟨_, rfl⟩
        obtain ⟨r, hr⟩ : ∃ r, k % 8 = r := ⟨_, rfl⟩
        rw [hx, hy] at hsum hsl
        rw [hx] at hcell
        rw [hy] at h128
        rw [hr] at h128 hr1 hr2 hm8
        rw [hq] at hcell hfr hq1 hq2 hk16 HSET hsum
        have HS := Lib.hid hsum
        clear hx hy hq hr hup hset hsum
        have hsh : IntKind.u8.wrap ((128 : Int) / 2 ^ r) = (y : Int) := by rw [← h128, IntKind.wrap_u8]; omega
        have hxy : IntKind.u8.wrap ((x : Int) + (y : Int)) = ((x + y : Nat) : Int) := by rw [IntKind.wrap_u8]; omega
        have h128' := h128.symm
        clear h128
        have HY := Lib.hid (show MoW w B g L Z (prefL s (maskF ((k + 1 : Nat) : Int) f) m).toArray (w4.drew.setCell ⟨g, 1 + q, none⟩ (.int .u8 (x + y : Nat))) from by
          have h := HX4.out.out.drew.put (1 + q) (.int .u8 (x + y : Nat))
          rw [HS.out, HSET.out] at h
          rw [HS.out]
          exact ⟨⟨(HX4.out.base.arg.drew).far (p := ⟨g, 1 + q, none⟩) (by have := HX4.out.far; show B ≠ g; omega) _, (HX4.out.base.res.drew).far (p := ⟨g, 1 + q, none⟩) (by have := HX4.out.far; show B + 1 ≠ g; omega) _, HX4.out.base.bel.drew.setCell (p := ⟨g, 1 + q, none⟩) (by have := HX4.out.far; show B ≤ g; omega) _⟩, h, HX4.out.far⟩)
        have hwq : IntKind.i64.wrap (q : Int) = (q : Int) := by rw [IntKind.wrap_i64]; omega
        have hwr : IntKind.i64.wrap (r : Int) = (r : Int) := by rw [IntKind.wrap_i64]; omega
        have hq0 : ((q : Int) < 16) = True := by simp; omega
        have hq00 : (q < 16) = True := by simp; omega
        have HCELL := Lib.hid (show w4.drew.cell? ⟨g, 1 + q, none⟩ = some (.int .u8 (x : Nat)) from hcell)
        have hfr' : w4.drew.frozen? ⟨g, 1 + q, none⟩ = false := hfr
        have hce' := HCELL.out
        refine region_drew (fun V => MkW w B L Z V) (by kernel_rfl) (show MkW w B L Z w4.drew from ⟨HX4.out.base.arg.drew, HX4.out.base.res.drew, HX4.out.base.bel.drew⟩) (fun hS => ?_)
        refine take 0 _ rfl (by kernel_rfl) (by kernel_rfl) (by kernel_rfl) (fun _ _ _ h => h) (by rfl) hS (by intro w _; go_simp; with_reducible rfl) ?_
        try simp only [Act.put, List.setIfInBounds_toArray, List.set_cons_zero, List.set_cons_succ]
        refine take 1 _ rfl (by kernel_rfl) (by kernel_rfl) (by kernel_rfl) (fun _ _ _ h => h) (by rfl) hS (by intro w _; go_simp; with_reducible rfl) ?_
        try simp only [Act.put, List.setIfInBounds_toArray, List.set_cons_zero, List.set_cons_succ]
        refine take 2 _ rfl (by kernel_rfl) (by kernel_rfl) (by kernel_rfl) (fun _ _ _ h => h) (by rfl) hS (by intro w _; go_simp; with_reducible rfl) ?_
        try simp only [Act.put, List.setIfInBounds_toArray, List.set_cons_zero, List.set_cons_succ]
        refine take 3 _ rfl (by kernel_rfl) (by kernel_rfl) (by kernel_rfl) (fun _ _ _ h => h) (by rfl) hS (by intro w _; go_simp; with_reducible rfl) ?_
        try simp only [Act.put, List.setIfInBounds_toArray, List.set_cons_zero, List.set_cons_succ]
        refine take 4 _ rfl (by kernel_rfl) (by kernel_rfl) (by kernel_rfl) (fun _ _ _ h => h) (by rfl) hS (by intro w _; go_simp; with_reducible rfl) ?_
        try simp only [Act.put, List.setIfInBounds_toArray, List.set_cons_zero, List.set_cons_succ]
        refine take 5 _ rfl (by kernel_rfl) (by kernel_rfl) (by kernel_rfl) (fun _ _ _ h => h) (by rfl) hS (by intro w _; go_simp; with_reducible rfl) ?_
        try simp only [Act.put, List.setIfInBounds_toArray, List.set_cons_zero, List.set_cons_succ]
        refine take 6 _ rfl (by kernel_rfl) (by kernel_rfl) (by kernel_rfl) (fun _ _ _ h => h) (by rfl) hS (by intro w _; go_simp; with_reducible rfl) ?_
        try simp only [Act.put, List.setIfInBounds_toArray, List.set_cons_zero, List.set_cons_succ]
        refine take 8 _ rfl (by kernel_rfl) (by kernel_rfl) (by kernel_rfl) (fun _ _ _ h => h) (by rfl) hS (by intro w _; go_simp; with_reducible rfl) ?_
        try simp only [Act.put, List.setIfInBounds_toArray, List.set_cons_zero, List.set_cons_succ]
        refine take 9 _ rfl (by kernel_rfl) (by kernel_rfl) (by kernel_rfl) (fun _ _ _ h => h) (by rfl) hS (by intro w _; go_simp; with_reducible rfl) ?_
        try simp only [Act.put, List.setIfInBounds_toArray, List.set_cons_zero, List.set_cons_succ]
        refine take 10 _ rfl (by kernel_rfl) (by kernel_rfl) (by kernel_rfl) (fun _ _ _ h => h) (by rfl) hS (by intro w _; go_simp; with_reducible rfl) ?_
        try simp only [Act.put, List.setIfInBounds_toArray, List.set_cons_zero, List.set_cons_succ]
        refine take 12 _ rfl (by kernel_rfl) (by kernel_rfl) (by kernel_rfl) (fun _ _ _ h => h) (by rfl) hS (by intro w _; go_simp; with_reducible rfl) ?_
        try simp only [Act.put, List.setIfInBounds_toArray, List.set_cons_zero, List.set_cons_succ]
        refine take 13 _ rfl (by kernel_rfl) (by kernel_rfl) (by kernel_rfl) (fun _ _ _ h => h) (by rfl) hS (by intro w _; go_simp; with_reducible rfl) ?_
        try simp only [Act.put, List.setIfInBounds_toArray, List.set_cons_zero, List.set_cons_succ]
        refine alone_run 7 (.int .u8 (x : Nat)) rfl (by kernel_rfl) (by rfl) hS (by have hc := HCELL.out; go_simp; try with_reducible rfl) ?_
        try simp only [Act.put, List.setIfInBounds_toArray, List.set_cons_zero, List.set_cons_succ]
        refine take 11 _ rfl (by kernel_rfl) (by kernel_rfl) (by kernel_rfl) (fun _ _ _ h => h) (by rfl) hS (by intro w _; go_simp; with_reducible rfl) ?_
        try simp only [Act.put, List.setIfInBounds_toArray, List.set_cons_zero, List.set_cons_succ]
        refine take 14 _ rfl (by kernel_rfl) (by kernel_rfl) (by kernel_rfl) (fun _ _ _ h => h) (by rfl) hS (by intro w _; go_simp; with_reducible rfl) ?_
        try simp only [Act.put, List.setIfInBounds_toArray, List.set_cons_zero, List.set_cons_succ]
        refine alone 15 rfl (by kernel_rfl) (by rfl) ?_
        intro K hK
        go_simp
        refine hK.out _ _ (by exact HY.out.base) ?_
        clear hK K hS
        try simp only [Act.put]
        refine region_end (by kernel_rfl) ?_
        clear hcell hfr hce' hfr' HX4 HSET HCELL hsh hxy hwq hwr hq0 hq00 hq1 hq2 hr1 hr2
        go_wp2_with fail
        go_round
        case rel => exact ⟨k + 1, by omega, by go_num, HY.out⟩
        case measure => simp only [intOf]; omega
      · have hd : ((b : Int) == 1) = false := by simp; omega
        have hd2 : ((b : Int) = 1) = False := by simp; omega
        have HNO := Lib.hid (step_no HF.out k (by rw [HBB.out]; exact hb1))
        clear hb1
        go_wp2_with (first
          | (refine wpList_load_mid rfl 27 (.tmp 36) rfl B 0 rfl A _ HR2.out rfl rfl (by rw [HA.out]; kernel_rfl) ?_)
          | (go_at_call 45; refine (HBK.out _).mono ?_; rintro e w4 ⟨rfl, hb4⟩; have HX4 := Lib.hid (HX.out.below hb4); clear hb4))
        go_round
        case rel => exact ⟨k + 1, by omega, by go_num, by rw [← HNO.out]; exact HX4.out⟩
        case measure => simp only [intOf]; omega
    · obtain rfl : k = m := by omega
      go_wp2_with (first
        | (refine wpList_load_row rfl 29 (.tmp 4) rfl g rfl 29 (prefL s (maskF (k : Int) f) k).toArray (0, 0) _ HX.out.out rfl rfl (by rw [HPS.out]; kernel_rfl) ?_)
        | (refine wpList_store_row rfl 29 (.tmp 2) (.tmp 56) rfl (B + 1) (prefL s (maskF (k : Int) f) k).toArray rfl rfl 29 _ HX.out.base.res (by rw [HPS.out]; kernel_rfl) (by rw [HPS.out, HZS.out]) (HPO.out _) ?_))
      have hret : Whole (wr.setRow (B + 1) (prefL s (maskF (k : Int) f) k).toArray) (B + 1) 29 (prefL s (maskF (k : Int) f) k).toArray := setRow_heap _ _ _ _ _ _ HX.out.base.res
      refine bodyPost_ret (Poly.results_cell_tmp rfl _ _ (B + 1) 29 _ _ rfl hret rfl rfl (by rw [prefL_length]; kernel_rfl)) rfl ?_
      refine ⟨?_, by rw [HB.out]; exact below_setRow HX.out.base.bel (Nat.le_succ _) _⟩
      have e1 : maskE s f (k : Int) = 0 := maskE_ok hr (by omega) HFAR.out
      have e2 : E = 0 := by rw [← HE.out]; exact e1
      rw [HV.out, e2]
      unfold mS mF mZ
      rw [e1]
      rfl
theorem rMask_any (s : Bool) (f : Nat → Nat) (hf : ∀ i, f i < 256) (z : Int) (w : World) :
    Calls Try.prog 53 #[.agg (prefL s f z).toArray] w fun e w' => e = .returned (.tuple #[maskV s f z, .int .i64 (maskE s f z : Nat)]) ∧ Below w.heap.size w w' := by
  cases hr : rightB s f
  · exact rMask_addr s f hf z hr w
  · by_cases h0 : z < 0
    · exact rMask_neg s f hf z hr h0 w
    · by_cases h1 : digitsI s < z
      · exact rMask_far s f hf z hr (by omega) h1 w
      · exact rMask_ok s f hf z hr (by omega) (by omega) w
end Tri
end Go.Proofs.Ytcpfchfhcfdcpaa
