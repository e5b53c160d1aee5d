/- The calls Right of package cidr and put of package inner. -/
import Derived.Test.YtiemcfgjpcnloaaInnerEq
namespace Go.Proofs.Ytiemcfgjpcnloaa
namespace Inner
open Go.ChangeShapes Go.WideShapes Go.ChangeAt Go.RowKit
open Num Mem Words Chacha Aead Poly

theorem grown_below {w w' : World} {g : Nat} (h : Below w.heap.size w w') : w.grownBy w' (some g) := ⟨h.os, h.tape, h.output, h.size, fun i hi _ => h.block i hi⟩
/-- an address may be -/
def rightB (six : Bool) (f : Nat → Nat) : Bool := six || decide (∀ i : Fin 16, 4 ≤ i.1 → f i.1 = 0)

set_option maxRecDepth 100000 in
set_option maxHeartbeats 2000000 in
theorem right_any (six : Bool) (f : Nat → Nat) (hf : ∀ i, f i < 256) (w : World) :
    Calls Try.prog 21 #[.agg (addrL six f).toArray] w fun e w' => e = .returned (.bool (rightB six f)) ∧ Below w.heap.size w w' := by
  obtain ⟨zs, hz, hzs, hzc⟩ : ∃ zs : Array Value, (∀ w, (zeroValue 26).run Try.prog w = .ok (.agg zs) w) ∧ zs.size = 17 ∧ zs = (addrL false nought).toArray := ⟨_, zero_addr, addr_size _ _, rfl⟩
  have HZS := Lib.hid hzs
  have HZC := Lib.hid hzc
  clear hzs hzc
  have HF := Lib.hid hf
  clear hf
  obtain ⟨L, hL⟩ : ∃ L, addrL six f = L := ⟨_, rfl⟩
  rw [hL]
  have HL := Lib.hid hL
  clear hL
  go_enter Try.func21, Try.ntmps21
  go_upto_region 2 with fail
  refine cut_world (fun X => Whole X w.heap.size 26 L.toArray ∧ Whole X (w.heap.size + 1) 26 zs ∧ Below w.heap.size w X) ⟨(Whole.new _ _ _).alloc _, whole_new _ _ (by simp), below_alloc (below_alloc (Below.refl _ _) _) _⟩ ?_
  rintro W ⟨p1, p2, pb⟩
  have P1 := Lib.hid p1
  have P2D := Lib.hid (show Whole W.drew (w.heap.size + 1) 26 (addrL false nought).toArray from HZC.out ▸ p2.drew)
  have PB := Lib.hid pb
  have HS := Lib.hid (show ∀ (j : Nat) (v : Value), (byteCells f 4)[j]? = some v → W.drew.cell? ((⟨w.heap.size, 1, none⟩ : Addr).add j) = some v from
    rd_src fun i hi => by
      have h := p1.drew.cell (1 + i)
      rw [h, ← HL.out, List.getElem?_toArray]
      unfold addrL
      rw [Nat.add_comm 1 i, List.getElem?_cons_succ, byteCells_get _ _ _ (by omega)])
  have hl := p2.lt
  clear p1 p2 pb
  generalize hB : w.heap.size = B at P1 P2D PB HS hl ⊢
  go_region_law (refine step_copy_grown rfl (.tmp 5) (.tmp 7) 22 22 rfl 5 rfl (by kernel_rfl) (B + 1) 1 4 16 ⟨B, 1, none⟩ 16 16 rfl rfl (addrL false nought) 26 P2D.out (byteCells f 4) (by rw [byteCells_length]; rfl) HS.out (by rw [byteCells_length, addrL_length]; omega) (bytes_each _ _) ?_; intro w8 hg8 hb8)
  have Q2 := Lib.hid (show Whole w8 (B + 1) 26 (addrL false (at4 f 0)).toArray from by
    have h := hg8.out
    rw [addr_splice false nought f (at4 f 0) 4 (by omega) (fun i hi => by
      unfold at4
      rw [Nat.zero_add]
      rfl)] at h
    exact h)
  have Q1 := Lib.hid (whole_grown (w := w8) P1.out.drew hb8 (by omega))
  have QB := Lib.hid (below_grown (below_drewN PB.out 1) hb8 (by omega) (by show B ≤ W.heap.size; omega))
  have hc0 : w8.cell? ⟨B, 0, none⟩ = some (.bool six) := by
    rw [Q1.out.cell, ← HL.out]
    rfl
  clear hg8 hb8 P1 P2D PB HS
  rcases six with _ | _
  · have E := Lib.hid (fun w => eqin_addr 9997 false false f (at4 f 0) HF.out (at4_lt HF.out 0) (rightB false f) (by
      unfold rightB
      rw [Bool.false_or, decide_eq_true_eq]
      constructor
      · intro h
        refine ⟨rfl, fun i hi => ?_⟩
        unfold at4
        by_cases l : i < 4
        · rw [if_pos l, Nat.zero_add]
        · rw [if_neg l]; exact h ⟨i, hi⟩ (by show 4 ≤ i; omega)
      · rintro ⟨_, h⟩ ⟨i, hi⟩ hi4
        have := h i hi
        unfold at4 at this
        rwa [if_neg (show ¬ i < 4 from Nat.not_lt.2 hi4)] at this) w)
    rw [HL.out] at E
    have HLS := Lib.hid (show L.length = 17 from by rw [← HL.out, addrL_length])
    have HMS := Lib.hid (addrL_length false (at4 f 0))
    obtain ⟨M, hM⟩ : ∃ M, addrL false (at4 f 0) = M := ⟨_, rfl⟩
    rw [hM] at E Q2 HMS
    obtain ⟨r, hr⟩ : ∃ r, rightB false f = r := ⟨_, rfl⟩
    rw [hr] at E
    have HRr := Lib.hid hr
    clear hM hr HL
    go_wp2_with (first | (refine wpList_load_row_if (by rfl) 26 (.tmp 1) rfl B rfl 26 L _ Q1.out rfl rfl (by rw [HLS.out]; kernel_rfl) ?_) | (refine wpList_load_row_if (by rfl) 26 (.tmp 3) rfl (B + 1) rfl 26 M _ Q2.out rfl rfl (by rw [HMS.out]; kernel_rfl) ?_) | (refine wpList_value_if (by rfl) (.bool r) (run_eql_op 26 (.tmp 12) (.tmp 13) _ rfl L.toArray M.toArray rfl rfl r (by kernel_rfl) E.out _) ?_))
    go_ret
    exact ⟨by rw [HRr.out]; rfl, by rw [hB]; exact QB.out⟩
  · go_wp2_with fail
    go_ret
    exact ⟨rfl, by rw [hB]; exact QB.out⟩

set_option maxRecDepth 100000 in
set_option maxHeartbeats 2000000 in
/-- two bytes are laid into a row of n bytes at p -/
theorem put_any (g p n c v : Nat) (f : Nat → Nat) (t : TypeId) (hv : v < 65536) (hp : p + 2 ≤ n) (w : World) (hw : Whole w g t (byteCells f n).toArray) (m : Nat) (hm : 2 ≤ m) :
    Calls Try.prog 25 #[.slice (some ⟨g, p, none⟩) m c, .int .i64 v] w fun e w' => e = .returned (.tuple #[]) ∧ Whole w' g t (byteCells (fun i => if i = p then v / 256 else if i = p + 1 then v % 256 else f i) n).toArray ∧ w.grownBy w' (some g) := by
  have HW := Lib.hid hw
  have hlt := hw.lt
  clear hw
  go_enter Try.func25, Try.ntmps25
  go_wp2_with fail
  refine (putBig_ok v 2 (by omega) (by omega) (by simp; omega) _).mono ?_
  rintro e w1 ⟨rfl, q1, hb1⟩
  have Q1 := Lib.hid (HW.out.below hb1 hlt)
  have HG := Lib.hid (grown_below (g := g) hb1)
  have HS := Lib.hid (rd_src (w := w1) (b := w.heap.size) (off := 0) (n := 2) (f := fun i => byteAt v (2 - 1 - i)) fun i hi => q1.bytes i (by omega))
  have hl := q1.lt
  clear q1 hb1 HW
  generalize w.heap.size = G at hlt HS hl ⊢
  go_wp2_with (refine wpList_copy rfl (.tmp 12) (.tmp 13) 22 22 rfl 5 rfl (by kernel_rfl) g p m c ⟨G, 0, none⟩ 2 2 rfl rfl (byteCells f n) t Q1.out (byteCells (fun i => byteAt v (2 - 1 - i)) 2) (by rw [byteCells_length]; exact (Nat.min_eq_left (by omega)).symm) HS.out (by rw [byteCells_length, byteCells_length]; omega) (bytes_each _ _) ?_; intro w8 hg8 hb8)
  go_end0
  refine ⟨rfl, ?_, HG.out.trans hb8⟩
  have h := hg8.out
  rw [byteCells_splice f _ (fun i => if i = p then v / 256 else if i = p + 1 then v % 256 else f i) n p 2 hp (fun i hi => by
    unfold byteAt
    by_cases l : i = p
    · rw [if_pos l, if_pos ⟨by omega, by omega⟩, show 2 - 1 - (i - p) = 1 from by omega]
      omega
    · by_cases l2 : i = p + 1
      · rw [if_neg l, if_pos l2, if_pos ⟨by omega, by omega⟩, show 2 - 1 - (i - p) = 0 from by omega]
        omega
      · rw [if_neg l, if_neg l2, if_neg (by omega)])] at h
  exact h

end Inner
end Go.Proofs.Ytiemcfgjpcnloaa
