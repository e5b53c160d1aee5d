/- The document's limiter: level, find. -/
import Derived.Test.YtlccgplgbokgkaaLimRef
namespace Go.Proofs.Ytlccgplgbokgkaa
namespace Lim
open Go.ChangeShapes Go.WideShapes Go.ChangeAt Go.RowKit Go.Maps
open Num Mem Words Chacha Aead Poly Adr Ops Quiet Stamp RowV

set_option maxRecDepth 100000 in
theorem rlevel_any (e : Ent) (t : Int) (h0 : 0 ≤ e.2.2.1) (h1 : e.2.2.1 ≤ 250) (hv : okT e.2.2.2) (ht : okT t) (w : World) : Calls Try.prog 25 #[.agg (cellsE e).toArray, .int .i64 t] w fun r w' => r = .returned (.int .i64 (lev (e.2.2.1, e.2.2.2) t)) ∧ Below w.heap.size w w' := by
  have HL := Lib.hid (cellsE_lev e)
  have HA := Lib.hid (cellsE_at e)
  obtain ⟨x, hx⟩ : ∃ x, e.2.2.1 = x := ⟨_, rfl⟩
  obtain ⟨y, hy⟩ : ∃ y, e.2.2.2 = y := ⟨_, rfl⟩
  rw [hx] at HL h0 h1
  rw [hy] at HA hv
  rw [hx, hy]
  have hl : lev (x, y) t = if 250 < (if y < t then x + t - y else x) then 250 else (if y < t then x + t - y else x) := by
    unfold lev
    dsimp only
    split <;> split <;> omega
  obtain ⟨L, hLe⟩ : ∃ L, lev (x, y) t = L := ⟨_, rfl⟩
  rw [hLe] at hl ⊢
  have HLE := Lib.hid hl
  obtain ⟨C, hC⟩ : ∃ C, cellsE e = C := ⟨_, rfl⟩
  rw [hC] at HL HA ⊢
  have hy0 := hv.1
  have hy1 := hv.2
  have ht0 := ht.1
  have ht1 := ht.2
  clear hx hy hC hl hLe hv ht e
  have w1 : IntKind.i64.wrap (x + t) = x + t := by rw [IntKind.wrap_i64]; omega
  have w2 : IntKind.i64.wrap (x + t - y) = x + t - y := by rw [IntKind.wrap_i64]; omega
  go_enter Try.func25, Try.ntmps25
  go_upto_region 1 with fail
  refine cut_world (fun X => X.cell? ⟨w.heap.size, 17, none⟩ = some (.int .i64 x) ∧ X.cell? ⟨w.heap.size, 18, none⟩ = some (.int .i64 y) ∧ Below w.heap.size w X) ⟨by rw [(Whole.new _ _ _).cell, List.getElem?_toArray]; exact HL.out, by rw [(Whole.new _ _ _).cell, List.getElem?_toArray]; exact HA.out, below_alloc (Below.refl _ _) _⟩ ?_
  rintro W ⟨p1, p2, pb⟩
  have PB := Lib.hid pb
  clear pb
  by_cases c : y < t
  · rw [if_pos c] at HLE
    by_cases d : 250 < x + t - y
    · rw [if_pos d] at HLE
      go_wp2_with fail
      go_ret
      exact ⟨by rw [HLE.out]; rfl, PB.out⟩
    · rw [if_neg d] at HLE
      go_wp2_with fail
      go_ret
      exact ⟨by rw [HLE.out]; rfl, PB.out⟩
  · rw [if_neg c, if_neg (by omega)] at HLE
    have d : ¬ 250 < x := by omega
    go_wp2_with fail
    go_ret
    exact ⟨by rw [HLE.out]; rfl, PB.out⟩

/-- the document's limiter in memory: its block Y, its row behind B -/
def RW (w : World) (Y B : Nat) (E : List Ent) (last : Int) : Prop :=
  ∃ A c, Whole w Y 31 #[.slice A E.length c, .int .i64 last] ∧ w.ownsRow B 71 19 (.slice A E.length c) E.length (flat E) ∧ Y < B

theorem row_range {X : World} {g : Nat} {E : List Ent} (h : ∀ i v, (flat E)[i]? = some v → X.cell? ⟨g, i, none⟩ = some v) {i : Nat} {e : Ent} (he : E[i]? = some e) : X.rangeAt g (i * 19) (addrL e.1 e.2.1) := by
  intro j v hj
  have hl : j < 17 := by
    have := (List.getElem?_eq_some_iff.1 hj).1
    rwa [addrL_length] at this
  exact h (i * 19 + j) v (by rw [flat_get E i j e he (by omega)]; exact cellsE_addr e hj)

/-- what find answers -/
def FindR (E : List Ent) (s : Bool) (f : Nat → Nat) (r : Int) : Prop := (r = -1 ∧ ∀ d ∈ E, ¬ sameE s f d) ∨ ∃ (i : Nat) (d : Ent), r = (i : Int) ∧ E[i]? = some d ∧ sameE s f d ∧ ∀ j d', j < i → E[j]? = some d' → ¬ sameE s f d'
/-- none among the first k -/
def NoneB (E : List Ent) (s : Bool) (f : Nat → Nat) (k : Nat) : Prop := ∀ j d, j < k → E[j]? = some d → ¬ sameE s f d
set_option maxRecDepth 100000 in
set_option maxHeartbeats 4000000 in
theorem rfind_any (Y B : Nat) (E : List Ent) (last : Int) (hE : okE E) (hlen : E.length ≤ 1000) (s : Bool) (f : Nat → Nat) (hf : ∀ i, f i < 256) (w : World) (h : RW w Y B E last) :
    Calls Try.prog 24 #[.pointer (some ⟨Y, 0, none⟩), .agg (addrL s f).toArray] w fun e w' => ∃ r : Int, e = .returned (.int .i64 r) ∧ Below w.heap.size w w' ∧
      FindR E s f r := by
  obtain ⟨A, c, hY, hrow, hYB⟩ := h
  have HY := Lib.hid hY
  have HROW := Lib.hid hrow
  have HE := Lib.hid hE
  have HF := Lib.hid hf
  obtain ⟨n, hn⟩ : ∃ n, E.length = n := ⟨_, rfl⟩
  rw [hn] at HY HROW hlen
  have HN := Lib.hid hn
  obtain ⟨P, hP⟩ : ∃ P, addrL s f = P := ⟨_, rfl⟩
  rw [hP]
  have HP := Lib.hid hP
  have HPS := Lib.hid (show P.toArray.size = 17 by rw [← hP, addr_size])
  clear hY hrow hE hf hn hP
  go_enter Try.func24, Try.ntmps24
  go_upto_region 1 with fail
  refine cut_world (fun X => Whole X w.heap.size 25 P.toArray ∧ Below w.heap.size w X) ⟨Whole.new _ _ _, below_alloc (Below.refl _ _) _⟩ ?_
  rintro W ⟨p1, p2⟩
  have P1 := Lib.hid p1
  have P2 := Lib.hid p2
  clear p1 p2
  go_wp2_with fail
  go_loopw [5] (fun i X => ∃ k : Nat, k ≤ n ∧ i = .int .i64 k ∧ NoneB E s f k ∧ Whole X w.heap.size 25 P.toArray ∧ Below w.heap.size w X) (fun i _ => n - (intOf i).toNat)
  case atStart => exact ⟨0, Nat.zero_le _, rfl, fun j d hj => by omega, P1.out, P2.out⟩
  case round =>
    obtain ⟨k, hk, rfl, hno, hw, hb⟩ := hrel
    have HNO := Lib.hid hno
    have HW := Lib.hid hw
    have HB := Lib.hid hb
    clear hno hw hb P1 P2
    have cY : wr.cell? ⟨Y, 0, none⟩ = some (.slice A n c) := (Whole.below HY.out HB.out HY.out.lt).cell 0
    by_cases hlt : k < n
    · obtain ⟨g, rfl, hg, hgl, hcells⟩ := own_cells HROW.out (by omega)
      obtain ⟨d, hd⟩ : ∃ d, E[k]? = some d := ⟨_, List.getElem?_eq_getElem (by rw [HN.out]; exact hlt)⟩
      have hk2 : IntKind.i64.wrap ((k : Int) + 1) = (k : Int) + 1 := by rw [IntKind.wrap_i64]; omega
      have HRG := Lib.hid (fun (X : World) (hb : Below wr.heap.size wr X) => row_range (X := X) (fun i v hv => ((HB.out.cell (p := ⟨g, i, none⟩) hgl).trans (hcells i v hv).1 |> fun h => (hb.cell (p := ⟨g, i, none⟩) (Nat.lt_of_lt_of_le hgl HB.out.size)).trans h)) hd)
      have HCY := Lib.hid (fun (X : World) (hb : Below wr.heap.size wr X) => (hb.cell (p := ⟨Y, 0, none⟩) (by have := HY.out.lt; have := HB.out.size; show Y < _; omega)).trans cY)
      have HDL := Lib.hid (addrL_length d.1 d.2.1)
      have hdec : ∃ r : Bool, r = true ↔ (d.1 = s ∧ ∀ i, i < 16 → d.2.1 i = f i) := ⟨decide (d.1 = s ∧ ∀ i : Fin 16, d.2.1 i = f i), by rw [decide_eq_true_eq]; exact ⟨fun h => ⟨h.1, fun i hi => h.2 ⟨i, hi⟩⟩, fun h => ⟨h.1, fun i => h.2 i.1 i.2⟩⟩⟩
      obtain ⟨r, hr⟩ := hdec
      have HEQ := Lib.hid (fun w => eqin_addr 9997 d.1 s d.2.1 f (HE.out d (List.mem_of_getElem? hd)) HF.out r hr w)
      rw [HP.out] at HEQ
      obtain ⟨Q, hQ⟩ : ∃ Q, addrL d.1 d.2.1 = Q := ⟨_, rfl⟩
      rw [hQ] at HEQ HRG HDL
      have HD := Lib.hid hd
      have HRr := Lib.hid hr
      clear hQ hd hcells hr
      go_upto_region 4 with fail
      refine q_start (by kernel_rfl) (by kernel_rfl) ?_
      refine q_take _ (by rfl) (fun x hx => by go_simp; try with_reducible rfl) ?_
      go_frame
      refine q_take _ (by rfl) (fun x hx => by go_simp; try with_reducible rfl) ?_
      go_frame
      refine q_take _ (by rfl) (fun x hx => by go_simp; try with_reducible rfl) ?_
      go_frame
      refine q_take (.slice (some ⟨g, 0, none⟩) n c) (by rfl) (fun x hx => by have c := HCY.out x hx; go_simp; try with_reducible rfl) ?_
      go_frame
      refine q_take _ (by rfl) (fun x hx => by go_simp; try with_reducible rfl) ?_
      go_frame
      refine q_take (.pointer (some ⟨g, k * 19, none⟩)) (by rfl) (fun x hx => by go_simp; try with_reducible rfl) ?_
      go_frame
      refine q_take (.pointer (some ⟨g, k * 19, none⟩)) (by rfl) (fun x hx => by go_simp; try with_reducible rfl) ?_
      go_frame
      refine q_take (.agg Q.toArray) (by rfl) (fun x hx => run_mid_in 25 (.tmp 21) rfl g (k * 19) rfl Q _ (HRG.out x hx) rfl rfl (by rw [HDL.out]; kernel_rfl)) ?_
      go_frame
      refine q_take (.agg P.toArray) (by rfl) (fun x hx => run_load_in 25 (.tmp 3) rfl w.heap.size rfl P.toArray 17 HPS.out (Whole.below HW.out hx HW.out.lt) rfl rfl (by kernel_rfl)) ?_
      go_frame
      refine q_take (.bool r) (by rfl) (fun x hx => run_eql_op 25 (.tmp 22) (.tmp 23) _ rfl Q.toArray P.toArray rfl rfl r (by kernel_rfl) HEQ.out x) ?_
      go_frame
      refine wpQuiet_nil ?_
      intro w2 hb2
      have HW2 := Lib.hid (Whole.below HW.out hb2 HW.out.lt)
      have HB2 := Lib.hid (below_trans HB.out hb2)
      clear hb2 HW HB cY HRG HCY HEQ
      cases r
      · go_wp2_with fail
        go_roundw
        case rel =>
          refine ⟨k + 1, by omega, by go_num, fun j d' hj hd' => ?_, HW2.out, HB2.out⟩
          by_cases e : j = k
          · subst e
            rw [HD.out] at hd'
            rw [← Option.some.inj hd']
            intro hs
            have := HRr.out.2 hs
            cases this
          · exact HNO.out j d' (by omega) hd'
        case measure => simp [intOf]; omega
      · go_wp2_with fail
        go_ret
        exact ⟨(k : Int), rfl, HB2.out, Or.inr ⟨k, d, rfl, HD.out, HRr.out.1 (by simp), HNO.out⟩⟩
    · obtain rfl : k = n := by omega
      go_wp2_with fail
      go_ret
      refine ⟨-1, rfl, HB.out, Or.inl ⟨rfl, fun d hd => ?_⟩⟩
      obtain ⟨j, hj⟩ := List.getElem?_of_mem hd
      exact HNO.out j d (by rw [← HN.out]; exact (List.getElem?_eq_some_iff.1 hj).1) hj
end Lim
end Go.Proofs.Ytlccgplgbokgkaa
