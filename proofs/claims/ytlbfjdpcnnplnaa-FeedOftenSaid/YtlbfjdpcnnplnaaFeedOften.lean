/- The walk of FeedOften. -/
import Derived.Test.YtlbfjdpcnnplnaaFdEv
namespace Go.Proofs.Ytlbfjdpcnnplnaa
namespace FeedOften
open Go.ChangeShapes Go.WideShapes Go.ChangeAt Go.RowKit Go.Maps
open Num Mem Words Chacha Aead Poly Quiet RowV Fee

def its (l : List Ev) : List It := l.map (fun e => ⟨e, 0⟩)
theorem push_room : ∀ (l : List Ev) (L : List It), L.length + l.length ≤ 16 → pushAll ⟨L, 0⟩ l = ⟨L ++ its l, 0⟩
  | [], L, _ => by show (⟨L, 0⟩ : Wt) = ⟨L ++ [], 0⟩; rw [List.append_nil]
  | e :: l, L, h => by
    have e1 : pushW ⟨L, 0⟩ e = ⟨L ++ [⟨e, 0⟩], 0⟩ := by
      unfold pushW
      rw [if_neg (by
        show ¬ 16 < L.length + (([] : List It).length + 1)
        rw [List.length_cons] at h
        simp only [List.length_nil]
        omega)]
      rfl
    show pushAll (pushW ⟨L, 0⟩ e) l = _
    rw [e1, push_room l _ (by rw [List.length_append, List.length_singleton]; rw [List.length_cons] at h; omega), List.append_assoc]
    rfl
theorem take_room (l : List Ev) (h : l.length ≤ 16) : takeL (pushAll ⟨[], 0⟩ l) 16 = its l ∧ takeW (pushAll ⟨[], 0⟩ l) 16 = ⟨[], 0⟩ := by
  rw [push_room l [] (by simpa using h), List.nil_append]
  have hc : cnt 16 (its l).length = (its l).length := by
    unfold cnt its
    rw [List.length_map]
    omega
  constructor
  · unfold takeL
    dsimp only
    rw [hc, List.take_of_length_le (Nat.le_refl _)]
    have : gapL 0 = [] := rfl
    rw [this]
    simp
  · unfold takeW
    dsimp only
    rw [hc, List.drop_of_length_le (Nat.le_refl _)]
    simp
/-- a row of bytes that lies below B -/
def RdB (B : Nat) (w : World) (A : Option Addr) (n : Nat) (f : Nat → Nat) : Prop := n = 0 ∨ ∃ b off, A = some ⟨b, off, none⟩ ∧ b < B ∧ ∀ i, i < n → w.cell? ⟨b, off + i, none⟩ = some (.int .u8 (f i : Nat))
theorem rd_fk {X Y : World} {A : Option Addr} {n : Nat} {f : Nat → Nat} {B : Nat} (h : RdB B X A n f) (hb : Below B X Y) : RdB B Y A n f :=
  h.imp id fun ⟨b, off, e, hl, hc⟩ => ⟨b, off, e, hl, fun i hi => (hb.cell (p := ⟨b, off + i, none⟩) hl).trans (hc i hi)⟩
def S1 : St := [(1, ⟨[], 0⟩)]
/-- the loop's world -/
structure LoW (w : World) (A : Option Addr) (n : Nat) (f : Nat → Nat) (g : Nat) (X : World) : Prop where
  bel : Below w.heap.size w X
  rd : RdB w.heap.size X A n f
  fb : ∃ F, FB w.heap.size X F g S1 1
theorem LoW.below {w : World} {A : Option Addr} {n : Nat} {f : Nat → Nat} {g : Nat} {X Y : World} (h : LoW w A n f g X) (hb : Below X.heap.size X Y) : LoW w A n f g Y :=
  ⟨below_trans h.bel hb, rd_fk h.rd (hb.mono h.bel.size), by obtain ⟨F, hF⟩ := h.fb; exact ⟨F, hF.below hb⟩⟩
set_option maxRecDepth 100000 in
set_option maxHeartbeats 2000000 in
theorem walk (A : Option Addr) (n c : Nat) (zs : List Int) (w : World) (h : IsRow .u8 w A n c zs) : Calls Try.prog 7 #[.slice A n c] w fun e w' => e = .returned (.bool true) ∧ Below w.heap.size w w' := by
  obtain ⟨f, hf, hrd, hnc, hc63⟩ := rd_of_row h
  have HRD := Lib.hid hrd
  have HFB := Lib.hid hf
  clear h hrd hf
  go_enter Try.func7, Try.ntmps7
  go_wp2_with fail
  refine (new_any w).mono ?_
  rintro o X1 ⟨g, rfl, hb1, hf1⟩
  have hF1 := FB.new hf1 (Nat.le_refl _)
  obtain ⟨F1, hF1e⟩ : ∃ F1 : Nat → Prop, (fun i => w.heap.size ≤ i ∧ i < X1.heap.size) = F1 := ⟨_, rfl⟩
  rw [hF1e] at hF1
  have HF := Lib.hid hF1
  have HB := Lib.hid hb1
  clear hF1 hF1e hf1 hb1
  go_wp2_with fail
  refine (watch_ok HF.out.1 (by decide) (by decide)).mono ?_
  rintro o X2 ⟨rfl, hf2, hk2⟩
  have hF2 := HF.out.grow HB.out.size hf2
  have hB2 : Below w.heap.size w X2 := HB.out.trans (hk2.below HB.out.size fun i hi => (HF.out.2 i hi).1)
  have HL := Lib.hid (show LoW w A n f g X2 from ⟨hB2, rd_fk (show RdB w.heap.size w A n f from HRD.out) hB2, _, hF2⟩)
  clear hF2 hf2 hk2 hB2 HF HB
  clear X1
  go_wp2_with fail
  clear HRD
  go_loopw [6, 7, 8, 9, 10, 11] (fun nx i _ _ _ _ X => ∃ k v : Nat, k ≤ n ∧ k ≤ 100 ∧ v ≤ 1 + 16 * k ∧ i = .int .i64 k ∧ nx = .int .u64 v ∧ LoW w A n f g X) (fun _ i _ _ _ _ _ => n - (intOf i).toNat)
  case atStart => exact ⟨0, 1, Nat.zero_le _, Nat.zero_le _, Nat.le_refl _, rfl, rfl, HL.out⟩
  case round =>
    obtain ⟨k, v, hk, hk2, hv, rfl, rfl, hW⟩ := hrel
    have HW := Lib.hid hW
    clear hW HL
    by_cases hlt : k < n ∧ k < 100
    · obtain ⟨hlt, hlt2⟩ := hlt
      obtain ⟨b, off, rfl, hbl, hcell⟩ : ∃ b off, A = some ⟨b, off, none⟩ ∧ b < w.heap.size ∧ ∀ i, i < n → wr.cell? ⟨b, off + i, none⟩ = some (.int .u8 (f i : Nat)) := by
        rcases HW.out.rd with h0 | h0
        · omega
        · exact h0
      have ck := hcell k hlt
      have hfk := HFB.out k
      obtain ⟨y, hy⟩ : ∃ y, f k = y := ⟨_, rfl⟩
      rw [hy] at ck hfk
      have hw1 : IntKind.i64.wrap (y : Int) = (y : Int) := by rw [IntKind.wrap_i64]; omega
      obtain ⟨z, hz⟩ : ∃ z, y % 17 = z := ⟨_, rfl⟩
      have hz17 : z ≤ 16 := by omega
      have hm1 : (y : Int) % 17 = (z : Int) := by omega
      have hm2 : (y : Int).tmod 17 = (z : Int) := by rw [Int.tmod_eq_emod_of_nonneg (by omega)]; exact hm1
      clear hcell hy hz
      obtain ⟨F, hF⟩ := HW.out.fb
      have HF := Lib.hid hF
      have HBW := Lib.hid HW.out.bel
      have HRW := Lib.hid HW.out.rd
      clear hF HW
      go_upto_region 10 with fail
      have HEV := Lib.hid (events_any v (z : Int) (by omega) wr)
      have eN : evN (z : Int) = z := by unfold evN; omega
      rw [eN] at HEV
      clear eN hm1 hm2 hw1 ck hbl
      go_wp2_with fail
      refine HEV.out.mono ?_
      rintro o X3 ⟨A3, c3, rfl, ho3, hb3⟩
      have HF3 := Lib.hid (HF.out.below hb3)
      have HB3 := Lib.hid (below_trans HBW.out hb3)
      have HO3 := Lib.hid ho3
      have HFL := Lib.hid (show ∀ i, F i → i < wr.heap.size from fun i hi => (HF.out.2 i hi).2)
      have HR3 := Lib.hid (rd_fk HRW.out (hb3.mono HBW.out.size))
      clear HEV ho3 hb3 HF HBW HRW
      go_wp2_with fail
      have hp := push_ev HF3.out HB3.out.size HFL.out HO3.out (evs_ok v z (by omega) (by omega)) (fun p hp => by
        have hp : p = (1, ⟨[], 0⟩) := List.mem_singleton.1 hp
        rw [hp, evs_length]
        show 0 + z ≤ _
        omega) (by rw [evs_length]; omega)
      rw [evs_length] at hp
      refine hp.mono ?_
      rintro o X4 ⟨rfl, hf4, hk4, hb4⟩
      have HF4 := Lib.hid (show FB w.heap.size X4 F g [(1, pushAll ⟨[], 0⟩ (evs v z))] 1 from hf4)
      have HB4 := Lib.hid (HB3.out.trans hb4)
      have HR4 := Lib.hid (rd_fk HR3.out hb4)
      clear hf4 hk4 hb4 hp HF3 HB3 HO3 HFL HR3
      clear X3
      go_wp2_with fail
      refine (take_ev HF4.out HB4.out.size 1 (by decide) 16 (at_one 1 _)).mono ?_
      rintro o X5 ⟨q, rfl, hz, hf5, hk5, hb5⟩
      obtain ⟨hr1, hr2⟩ := take_room (evs v z) (by rw [evs_length]; exact hz17)
      rw [hr1] at hz
      rw [hr2, putS_one] at hf5
      obtain ⟨A5, rfl, hget⟩ := hz.get
      have hil : (its (evs v z)).length = z := by unfold its; rw [List.length_map, evs_length]
      rw [hil]
      have HGET := Lib.hid (show ∀ j, j < z → ∃ b off, A5 = some ⟨b, off, none⟩ ∧ X5.cell? ⟨b, off + j * 35 + 34, none⟩ = some (.int .u64 0) ∧ X5.cell? ⟨b, off + j * 35 + 33, none⟩ = some (.int .u64 (v + j : Nat)) from fun j hj => by
        obtain ⟨b, off, e, _, h1, h2⟩ := hget j ⟨evE v j, 0⟩ (by unfold its; rw [List.getElem?_map, evs_get _ _ _ hj]; rfl)
        exact ⟨b, off, e, h1, h2⟩)
      have HW5 := Lib.hid (show LoW w (some ⟨b, off, none⟩) n f g X5 from ⟨HB4.out.trans hb5, rd_fk HR4.out hb5, F, hf5⟩)
      clear hz hf5 hk5 hb5 hr1 hr2 hget hil HF4 HB4 HR4
      clear X4
      go_wp2_with fail
      go_loopw [11] (fun j X => ∃ m : Nat, m ≤ z ∧ j = .int .i64 m ∧ X = X5) (fun j _ => z - (intOf j).toNat)
      case atStart => exact ⟨0, Nat.zero_le _, rfl, rfl⟩
      case round =>
        obtain ⟨m, hm, rfl, rfl⟩ := hrel
        by_cases hmz : m < z
        · obtain ⟨b5, off5, rfl, c34, c33⟩ := HGET.out m hmz
          have hw1 : IntKind.u64.wrap (m : Int) = (m : Int) := by rw [IntKind.wrap_u64]; omega
          have hw2 : IntKind.u64.wrap ((v : Int) + (m : Int)) = (v : Int) + (m : Int) := by rw [IntKind.wrap_u64]; omega
          go_wp2_with fail
          go_roundw
          case rel => exact ⟨m + 1, by omega, by go_num, by first | trivial | rfl⟩
          case measure => simp [intOf]; omega
        · obtain rfl : m = z := by omega
          have hw1 : IntKind.u64.wrap (m : Int) = (m : Int) := by rw [IntKind.wrap_u64]; omega
          have hw2 : IntKind.u64.wrap ((v : Int) + (m : Int)) = (v : Int) + (m : Int) := by rw [IntKind.wrap_u64]; omega
          go_wp2_with fail
          go_roundw
          case rel => exact ⟨k + 1, v + m, by omega, by omega, by omega, by go_num, by go_num, HW5.out⟩
          case measure => simp [intOf]; omega
    · have HAL := Lib.hid (alive_ok wr)
      have HB := Lib.hid HW.out.bel
      clear HW
      by_cases hlt1 : k < n
      · have hd : ¬ k < 100 := fun c => hlt ⟨hlt1, c⟩
        go_wp2_with fail
        refine HAL.out.mono ?_
        rintro e w2 ⟨rfl, hb2⟩
        go_wp2_with fail
        go_ret
        exact ⟨rfl, below_trans HB.out hb2⟩
      · go_wp2_with fail
        refine HAL.out.mono ?_
        rintro e w2 ⟨rfl, hb2⟩
        go_wp2_with fail
        go_ret
        exact ⟨rfl, below_trans HB.out hb2⟩
end FeedOften
end Go.Proofs.Ytlbfjdpcnnplnaa
