/- The call Unhex of package words at any text, by what it answers: the bytes, or what is wrong and where. -/
import Derived.Test.YtmhmcdldfpnmbaaWordsHex
import Derived.WalkMore
import Derived.ChangeAlike
namespace Go.Proofs.Ytmhmcdldfpnmbaa
namespace Words
open Go.ChangeShapes Go.WideShapes Go.ChangeAt Go.RowKit
open Num Mem

/-- what has been gathered at place i behind k digits -/
def ux (ch : Nat → Nat) (k i : Nat) : Nat := if 2 * i + 1 < k then dv (ch (2 * i)) * 16 + dv (ch (2 * i + 1)) else if 2 * i < k then dv (ch (2 * i)) else 0

theorem ux_lt (ch : Nat → Nat) (k i : Nat) : ux ch k i < 256 := by
  have := dv_lt (ch (2 * i))
  have := dv_lt (ch (2 * i + 1))
  unfold ux
  split
  · omega
  · split <;> omega

theorem ux_other (ch : Nat → Nat) (k i : Nat) (h : i ≠ k / 2) : ux ch (k + 1) i = ux ch k i := by
  unfold ux
  by_cases h1 : 2 * i + 1 < k
  · rw [if_pos h1, if_pos (by omega)]
  · rw [if_neg h1, if_neg (show ¬ 2 * i + 1 < k + 1 by omega)]
    by_cases h2 : 2 * i < k
    · rw [if_pos h2, if_pos (by omega)]
    · rw [if_neg h2, if_neg (by omega)]

theorem ux_here (ch : Nat → Nat) (k : Nat) : bits .or .u8 ((ux ch k (k / 2) : Nat) * 16 % 256) ((dv (ch k) : Nat) : Int) = ((ux ch (k + 1) (k / 2) : Nat) : Int) := by
  have hd := dv_lt (ch k)
  have e : (((ux ch k (k / 2) : Nat) : Int) * 16 % 256) = ((ux ch k (k / 2) * 16 % 256 : Nat) : Int) := by omega
  rw [e, u8_or_nat _ _ (by omega) (by omega), nat_join 4 _ _ (by omega) (by omega)]
  congr 1
  unfold ux
  by_cases hp : k % 2 = 0
  · have e2 : 2 * (k / 2) = k := by omega
    rw [e2, if_neg (by omega), if_neg (by omega), if_neg (by omega), if_pos (by omega)]
    omega
  · have e2 : 2 * (k / 2) + 1 = k := by omega
    have h3 := dv_lt (ch (2 * (k / 2)))
    rw [if_neg (by omega), if_pos (by omega), if_pos (by omega), e2]
    omega

/-- the memory of the call at a round's head -/
structure URel (ch : Nat → Nat) (n : Nat) (w : World) (k : Nat) (wr : World) : Prop where
  row : Whole wr (w.heap.size + 1) 5 (byteCells (ux ch k) n).toArray
  res : Whole wr w.heap.size 43 #[.int .i64 0, .int .i64 0]
  flt : Whole wr (w.heap.size + 1 + 1) 43 #[.int .i64 0, .int .i64 0]
  bel : Below w.heap.size w wr

theorem URel.start (ch : Nat → Nat) (n : Nat) (w : World) :
    URel ch n w 0 (((w.alloc (Obj.cells #[Value.int IntKind.i64 0, Value.int IntKind.i64 0] 43)).alloc (Obj.cells (byteCells (fun _ => 0) n).toArray 5)).alloc (Obj.cells #[Value.int IntKind.i64 0, Value.int IntKind.i64 0] 43)) := by
  refine ⟨?_, ?_, ?_, ?_⟩
  · rw [show byteCells (ux ch 0) n = byteCells (fun _ => 0) n from byteCells_congr fun i hi => by unfold ux; rw [if_neg (by omega), if_neg (by omega)]]
    have := (Whole.new (w.alloc (.cells #[.int .i64 0, .int .i64 0] 43)) 5 (byteCells (fun _ => 0) n).toArray).alloc (.cells #[.int .i64 0, .int .i64 0] 43)
    simpa using this
  · exact ((Whole.new w 43 _).alloc _).alloc _
  · have := Whole.new ((w.alloc (Obj.cells #[Value.int IntKind.i64 0, Value.int IntKind.i64 0] 43)).alloc (Obj.cells (byteCells (fun _ => 0) n).toArray 5)) 43 #[.int .i64 0, .int .i64 0]
    simpa using this
  · exact (((Below.refl _ _).alloc (Nat.le_refl _) _).alloc (by simp) _).alloc (by simp; omega) _

theorem URel.step {ch : Nat → Nat} {n : Nat} {w : World} {k : Nat} {wr : World} (h : URel ch n w k wr) (c : Nat) (hc : c = ch k) :
    URel ch n w (k + 1) (wr.setCell ⟨w.heap.size + 1, k / 2, none⟩ (.int .u8 (bits .or .u8 ((ux ch k (k / 2) : Nat) * 16 % 256) ((dv c : Nat) : Int)))) := by
  subst hc
  rw [ux_here]
  refine ⟨?_, h.res.far (by simp) _, h.flt.far (by simp) _, h.bel.setCell (by simp) _⟩
  have := h.row.put (k / 2) (.int .u8 ((ux ch (k + 1) (k / 2) : Nat) : Int))
  rw [byteCells_set, byteCells_congr (g := ux ch (k + 1)) (fun i hi => ?_)] at this
  · exact this
  · by_cases e : i = k / 2
    · rw [if_pos e, e]
    · rw [if_neg e, ux_other ch k i e]

theorem unhex_ok (s : ByteArray) (hn : s.size ≤ 131072) (h2 : s.size % 2 = 0) (hd : ∀ i, i < s.size → isDig (chr s i) = true) (w : World) :
    Calls Try.prog 27 #[.string s] w fun e w' => e = .returned (.tuple #[.slice (some ⟨w.heap.size + 1, 0, none⟩) (s.size / 2) (s.size / 2), .agg #[.int .i64 0, .int .i64 0]]) ∧
       Whole w' (w.heap.size + 1) 5 (byteCells (ux (chr s) s.size) (s.size / 2)).toArray ∧ Below w.heap.size w w' := by
  have hmk := made_bytes (s.size / 2) (by omega)
  rw [show (((s.size / 2 : Nat) : Int)) = (s.size : Int) / 2 from by omega] at hmk
  have hz : decide ((131072 : Int) < (s.size : Int)) = false := decide_eq_false (by omega)
  have HD := Lib.hid hd
  clear hd
  go_enter Try.func27, Try.ntmps27
  go_wp2
  go_step3
  go_wp2
  go_step3
  go_wp2
  clear hmk hz
  go_loopw [6, 20] (fun _ i wr => ∃ k : Nat, k ≤ s.size ∧ i = .int .i64 k ∧ URel (chr s) (s.size / 2) w k wr) (fun _ i _ => s.size - (intOf i).toNat)
  case atStart => exact ⟨0, Nat.zero_le _, rfl, URel.start _ _ _⟩
  case round =>
    obtain ⟨k, hk, rfl, hu⟩ := hrel
    by_cases hlt : k < s.size
    · have hdk : isDig (s[k].toNat) = true := by rw [chr_get]; exact HD.out k hlt
      have hcell := hu.row.cell (k / 2)
      rw [List.getElem?_toArray, byteCells_get _ _ _ (by omega)] at hcell
      have hfree := hu.row.free (k / 2)
      have HU := Lib.hid hu
      clear hu
      by_cases hpar : k % 2 = 0
      · go_wp2_with (go_at_call 44; refine (digit_yes _ hdk _).mono ?_; rintro e w' ⟨rfl, rfl⟩)
        go_roundw
        case rel => exact ⟨k + 1, by omega, by go_num, HU.out.step _ (chr_get s k hlt)⟩
        case measure => simp [intOf]; omega
      · go_wp2_with (go_at_call 44; refine (digit_yes _ hdk _).mono ?_; rintro e w' ⟨rfl, rfl⟩)
        go_roundw
        case rel => exact ⟨k + 1, by omega, by go_num, HU.out.step _ (chr_get s k hlt)⟩
        case measure => simp [intOf]; omega
    · have c0 := hu.flt.cell 0
      have c1 := hu.flt.cell 1
      have r0 := hu.res.cell 0
      have r1 := hu.res.cell 1
      have f0 := hu.res.free 0
      have f1 := hu.res.free 1
      simp at c0 c1 r0 r1
      have HU := Lib.hid hu
      clear hu
      go_wp2
      rw [Exit.noGoto_ret]
      refine bodyPost_ret (v := .tuple #[.slice (some ⟨w.heap.size + 1, 0, none⟩) (s.size / 2) (s.size / 2), .agg #[.int .i64 0, .int .i64 0]]) ?_ rfl ⟨rfl, ?_, (HU.out.bel.setCell (by simp) _).setCell (by simp) _⟩
      · simp [results, Try.results27, go_sem, r0, r1]
      · have h := (HU.out.row.far (p := ⟨w.heap.size, 0, none⟩) (by simp) (.int .i64 0)).far (p := ⟨w.heap.size, 1, none⟩) (by simp) (.int .i64 0)
        rw [show k = s.size from by omega] at h
        exact h

theorem unhex_long (s : ByteArray) (hn : 131072 < s.size) (w : World) :
    Calls Try.prog 27 #[.string s] w fun e w' => e = .returned (.tuple #[.slice none 0 0, .agg #[.int .i64 0, .int .i64 2]]) ∧ Below w.heap.size w w' := by
  have hz : decide ((131072 : Int) < (s.size : Int)) = true := decide_eq_true (by omega)
  go_enter Try.func27, Try.ntmps27
  go_wp2
  go_step3
  go_wp2
  rw [Exit.noGoto_ret]
  refine bodyPost_ret (v := .tuple #[.slice none 0 0, .agg #[.int .i64 0, .int .i64 2]]) ?_ rfl ⟨rfl, (Below.refl _ _).alloc (Nat.le_refl _) _⟩
  simp [results, Try.results27, go_sem]

theorem unhex_bad (s : ByteArray) (hn : s.size ≤ 131072) (m : Nat) (hm : m < s.size) (hd : ∀ i, i < m → isDig (chr s i) = true) (hno : isDig (chr s m) = false) (w : World) :
    Calls Try.prog 27 #[.string s] w fun e w' => e = .returned (.tuple #[.slice none 0 0, .agg #[.int .i64 m, .int .i64 11]]) ∧ Below w.heap.size w w' := by
  have hmk := made_bytes (s.size / 2) (by omega)
  rw [show (((s.size / 2 : Nat) : Int)) = (s.size : Int) / 2 from by omega] at hmk
  have hz : decide ((131072 : Int) < (s.size : Int)) = false := decide_eq_false (by omega)
  have HD := Lib.hid hd
  clear hd
  go_enter Try.func27, Try.ntmps27
  go_wp2
  go_step3
  go_wp2
  go_step3
  go_wp2
  clear hmk hz
  go_loopw [6, 20] (fun _ i wr => ∃ k : Nat, k ≤ m ∧ i = .int .i64 k ∧ URel (chr s) (s.size / 2) w k wr) (fun _ i _ => s.size - (intOf i).toNat)
  case atStart => exact ⟨0, Nat.zero_le _, rfl, URel.start _ _ _⟩
  case round =>
    obtain ⟨k, hk, rfl, hu⟩ := hrel
    by_cases hlt : k < m
    · have hk2 : k < s.size := by omega
      have hdk : isDig (s[k].toNat) = true := by rw [chr_get]; exact HD.out k hlt
      have hcell := hu.row.cell (k / 2)
      have hlast : (k : Int) < (s.size : Int) - 1 := by omega
      rw [List.getElem?_toArray, byteCells_get _ _ _ (by omega)] at hcell
      have hfree := hu.row.free (k / 2)
      have HU := Lib.hid hu
      clear hu
      by_cases hpar : k % 2 = 0
      · go_wp2_with (go_at_call 44; refine (digit_yes _ hdk _).mono ?_; rintro e w' ⟨rfl, rfl⟩)
        go_roundw
        case rel => exact ⟨k + 1, by omega, by go_num, HU.out.step _ (chr_get s k hk2)⟩
        case measure => simp [intOf]; omega
      · go_wp2_with (go_at_call 44; refine (digit_yes _ hdk _).mono ?_; rintro e w' ⟨rfl, rfl⟩)
        go_roundw
        case rel => exact ⟨k + 1, by omega, by go_num, HU.out.step _ (chr_get s k hk2)⟩
        case measure => simp [intOf]; omega
    · obtain rfl : k = m := by omega
      have hdk : isDig (s[k].toNat) = false := by rw [chr_get]; exact hno
      have c0 := hu.flt.cell 0
      have c1 := hu.flt.cell 1
      have d0 := hu.flt.free 0
      have d1 := hu.flt.free 1
      have r0 := hu.res.cell 0
      have r1 := hu.res.cell 1
      have f0 := hu.res.free 0
      have f1 := hu.res.free 1
      simp at c0 c1 r0 r1
      have HU := Lib.hid hu
      clear hu
      go_wp2_with (go_at_call 44; refine (digit_no _ hdk _).mono ?_; rintro e w' ⟨rfl, rfl⟩)
      go_region
      all_goals
        go_wp2
        rw [Exit.noGoto_ret]
        refine bodyPost_ret (v := .tuple #[.slice none 0 0, .agg #[.int .i64 k, .int .i64 11]]) ?_ rfl ⟨rfl, ?_⟩
        · simp [results, Try.results27, go_sem, r0, r1]
        · exact (((((HU.out.bel.setCell (by show w.heap.size ≤ w.heap.size + 1 + 1; omega) _).setCell (by show w.heap.size ≤ w.heap.size + 1 + 1; omega) _).drew).setCell (by simp) _).setCell (by simp) _)

theorem unhex_odd (s : ByteArray) (hn : s.size ≤ 131072) (h2 : s.size % 2 = 1) (hd : ∀ i, i < s.size → isDig (chr s i) = true) (w : World) :
    Calls Try.prog 27 #[.string s] w fun e w' => e = .returned (.tuple #[.slice none 0 0, .agg #[.int .i64 s.size, .int .i64 10]]) ∧ Below w.heap.size w w' := by
  have hmk := made_bytes (s.size / 2) (by omega)
  rw [show (((s.size / 2 : Nat) : Int)) = (s.size : Int) / 2 from by omega] at hmk
  have hz : decide ((131072 : Int) < (s.size : Int)) = false := decide_eq_false (by omega)
  have HD := Lib.hid hd
  clear hd
  go_enter Try.func27, Try.ntmps27
  go_wp2
  go_step3
  go_wp2
  go_step3
  go_wp2
  clear hmk hz
  go_loopw [6, 20] (fun _ i wr => ∃ k : Nat, k ≤ s.size - 1 ∧ i = .int .i64 k ∧ URel (chr s) (s.size / 2) w k wr) (fun _ i _ => s.size - (intOf i).toNat)
  case atStart => exact ⟨0, Nat.zero_le _, rfl, URel.start _ _ _⟩
  case round =>
    obtain ⟨k, hk, rfl, hu⟩ := hrel
    have hk2 : k < s.size := by omega
    have hdk : isDig (s[k].toNat) = true := by rw [chr_get]; exact HD.out k hk2
    by_cases hlt : k < s.size - 1
    · have hcell := hu.row.cell (k / 2)
      have hlast : (k : Int) < (s.size : Int) - 1 := by omega
      rw [List.getElem?_toArray, byteCells_get _ _ _ (by omega)] at hcell
      have hfree := hu.row.free (k / 2)
      have HU := Lib.hid hu
      clear hu
      by_cases hpar : k % 2 = 0
      · go_wp2_with (go_at_call 44; refine (digit_yes _ hdk _).mono ?_; rintro e w' ⟨rfl, rfl⟩)
        go_roundw
        case rel => exact ⟨k + 1, by omega, by go_num, HU.out.step _ (chr_get s k hk2)⟩
        case measure => simp [intOf]; omega
      · go_wp2_with (go_at_call 44; refine (digit_yes _ hdk _).mono ?_; rintro e w' ⟨rfl, rfl⟩)
        go_roundw
        case rel => exact ⟨k + 1, by omega, by go_num, HU.out.step _ (chr_get s k hk2)⟩
        case measure => simp [intOf]; omega
    · have hlast : ((k : Int) == (s.size : Int) - 1) = true := beq_iff_eq.2 (by omega)
      have hpar : k % 2 = 0 := by omega
      have c0 := hu.flt.cell 0
      have c1 := hu.flt.cell 1
      have d0 := hu.flt.free 0
      have d1 := hu.flt.free 1
      have r0 := hu.res.cell 0
      have r1 := hu.res.cell 1
      have f0 := hu.res.free 0
      have f1 := hu.res.free 1
      simp at c0 c1 r0 r1
      have HU := Lib.hid hu
      clear hu hlt hk
      go_wp2_with (go_at_call 44; refine (digit_yes _ hdk _).mono ?_; rintro e w' ⟨rfl, rfl⟩)
      go_region
      all_goals
        go_wp2
        rw [Exit.noGoto_ret]
        refine bodyPost_ret (v := .tuple #[.slice none 0 0, .agg #[.int .i64 s.size, .int .i64 10]]) ?_ rfl ⟨rfl, ?_⟩
        · simp [results, Try.results27, go_sem, r0, r1]
        · exact (((((HU.out.bel.setCell (by show w.heap.size ≤ w.heap.size + 1 + 1; omega) _).setCell (by show w.heap.size ≤ w.heap.size + 1 + 1; omega) _).drew).setCell (by simp) _).setCell (by simp) _)

end Words
end Go.Proofs.Ytmhmcdldfpnmbaa
