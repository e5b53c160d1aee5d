/- 'alive' of the statements of layer 4: the fixed calls come out as they must, and nothing that was there is written; what is sealed is opened. -/
import Derived.Test.YtdffbjlbhjppeaaLong
import Derived.Test.YtdffbjlbhjppeaaAliveThree
import Derived.Lib.SlBytesConst
namespace Go.Proofs.Ytdffbjlbhjppeaa
namespace Aead
open Go.ChangeShapes Go.WideShapes Go.ChangeAt Go.RowKit
open Num Mem Words State PolyN Chacha Quiet Poly Ref

theorem markF_congr (key nonce : Nat → Nat) {f g fo go : Nat → Nat} {nt no : Nat} (h : ∀ i, i < nt → f i = g i) (ho : ∀ i, i < no → fo i = go i) : markF key nonce f nt fo no = markF key nonce g nt go no := by
  unfold markF markW
  rw [mac_congr _ true no 0 fo go ho, mac_congr _ true nt _ f g h]
theorem box_text (key nonce f : Nat → Nat) (n : Nat) (fo : Nat → Nat) (no : Nat) {i : Nat} (h : i < n) : boxF key nonce f n fo no i = xo key nonce 1 f i := by
  unfold boxF boxW
  rw [if_pos h]
theorem box_mark (key nonce f : Nat → Nat) (n : Nat) (fo : Nat → Nat) (no i : Nat) : boxF key nonce f n fo no (n + i) = markF key nonce (xo key nonce 1 f) n fo no i := by
  unfold boxF boxW
  rw [if_neg (by omega), Nat.add_sub_cancel_left]
theorem boxF_lt (key nonce : Nat → Nat) {f : Nat → Nat} (hf : ∀ i, f i < 256) (n : Nat) (fo : Nat → Nat) (no i : Nat) : boxF key nonce f n fo no i < 256 := by
  unfold boxF boxW
  split
  · exact xo_lt key nonce 1 hf _
  · exact markF_lt _ _ _ _ _ _ _
theorem box_fits (key nonce f : Nat → Nat) (n : Nat) (fo : Nat → Nat) (no : Nat) : Fits16 key nonce (boxF key nonce f n fo no) (n + 16) fo no := by
  intro i _
  rw [Nat.add_sub_cancel, box_mark]
  exact congrFun (markF_congr key nonce (fun j hj => box_text key nonce f n fo no hj) (fun _ _ => rfl)) i
theorem open_sealE (key nonce f : Nat → Nat) (n : Nat) (fo : Nat → Nat) (no : Nat) (hn : n ≤ 65536) (hno : no ≤ 65536) : openE key nonce (boxF key nonce f n fo no) (n + 16) fo no = 0 := by
  rw [openE, if_neg (by omega), if_neg (by omega), if_pos (box_fits key nonce f n fo no)]
theorem open_sealN (key nonce f : Nat → Nat) (n : Nat) (fo : Nat → Nat) (no : Nat) (hn : n ≤ 65536) (hno : no ≤ 65536) : openN key nonce (boxF key nonce f n fo no) (n + 16) fo no = n := by
  rw [openN, if_neg (by omega), if_neg (by omega), if_pos (box_fits key nonce f n fo no), Nat.add_sub_cancel]
theorem box_back (key nonce f : Nat → Nat) (n : Nat) (fo : Nat → Nat) (no : Nat) {i : Nat} (h : i < n) : xo key nonce 1 (boxF key nonce f n fo no) i = f i := by
  have e : xo key nonce 1 (boxF key nonce f n fo no) i = xo key nonce 1 (xo key nonce 1 f) i := by
    unfold xo
    rw [box_text key nonce f n fo no h]
    rfl
  rw [e]
  unfold xo
  rw [Nat.xor_assoc, Nat.xor_self, Nat.xor_zero]
theorem own_max {w : World} {B t k c : Nat} {A : Option Addr} {f : Nat → Nat} (h : Own w B t A k c f) : c ≤ 9223372036854775807 := by
  rcases h.2 with ⟨e, _⟩ | ⟨g, cap, cur, e, _, _, _, hcl, _⟩
  · injection e with _ _ e3
    omega
  · injection e with _ _ e3
    rw [e3]
    simpa [maxLen] using hcl

theorem rd_marked {w : World} {g n : Nat} {t : TypeId} {cs : Array Value} {fz : Nat × Nat} {f : Nat → Nat} (hg : g = w.heap.size) (hc : cs = (byteCells f n).toArray) : Rd (w.alloc (.cells cs t fz)) (some ⟨g, 0, none⟩) n f := by
  subst hg
  subst hc
  have h : (w.alloc (.cells (byteCells f n).toArray t fz)).heap[w.heap.size]? = some (.cells (byteCells f n).toArray t fz) := heap_alloc_new w _
  refine .inr ⟨w.heap.size, 0, rfl, by simp, fun i hi => ?_⟩
  rw [cell_of_row _ _ _ _ t fz h, Nat.zero_add, List.getElem?_toArray, byteCells_get f n i hi]

def twoN : Nat → Nat := fun i => if i = 0 then 2 else 0
def abT : Nat → Nat := fun i => if i = 0 then 97 else 98
def cT : Nat → Nat := fun _ => 99
theorem twoN_lt (i : Nat) : twoN i < 256 := by unfold twoN; split <;> omega
theorem abT_lt (i : Nat) : abT i < 256 := by unfold abT; split <;> omega
theorem cT_lt (i : Nat) : cT i < 256 := by unfold cT; omega
def fourth : Nat → Nat := fun i => if i = 4 then 1 else 0
theorem fourth_lt (i : Nat) : fourth i < 256 := by unfold fourth; split <;> omega
theorem fourth_is : ∀ i, i < 12 → bn (byteAt 1) i = fourth i := by decide +kernel

set_option maxRecDepth 100000 in
set_option maxHeartbeats 1000000 in
theorem alive_any (w : World) : Calls Try.prog 23 #[] w fun e w' => e = .returned (.bool true) ∧ Below w.heap.size w w' := by
  have c1 := fun A n c f hf Ao no co fo hfo hco w hr hro => seal_all oneKey twoN oneKey_lt twoN_lt A n c f hf Ao no co fo hfo hco w hr hro
  have c2 := fun A n c f hf Ao no co fo hfo hc hc2 hco w hr hro => open_all oneKey twoN oneKey_lt twoN_lt A n c f hf Ao no co fo hfo hc hc2 hco w hr hro
  rw [byteCells_lit32, byteCells_lit12] at c1 c2
  have HS := Lib.hid c1
  have HO := Lib.hid c2
  have X1 := Lib.hid (show byteCells (bn (byteAt 1)) 12 = byteCells fourth 12 from byteCells_congr fourth_is)
  have E1 := Lib.hid (show ∀ w, (Op.equalIn 10000 41 (.agg (byteCells fourth 12).toArray) (.agg #[.int .u8 0, .int .u8 0, .int .u8 0, .int .u8 0, .int .u8 1, .int .u8 0, .int .u8 0, .int .u8 0, .int .u8 0, .int .u8 0, .int .u8 0, .int .u8 0])).run Try.prog w = .ok true w from fun w => by
    have := run_eql_arr (P := Try.prog) 41 5 12 Try.underlying41 Try.underlying5 size_u8 fourth fourth fourth_lt fourth_lt true (by simp) w
    rwa [byteCells_lit12] at this)
  clear c1 c2
  obtain ⟨T, hT⟩ : ∃ T, boxF oneKey twoN abT 2 cT 1 = T := ⟨_, rfl⟩
  have HT := Lib.hid hT
  have HTB := Lib.hid (show ∀ i, T i < 256 from fun i => by rw [← hT]; exact boxF_lt _ _ abT_lt _ _ _ _)
  have HOE := Lib.hid (show openE oneKey twoN T 18 cT 1 = 0 from by rw [← hT]; exact open_sealE oneKey twoN abT 2 cT 1 (by omega) (by omega))
  have HON := Lib.hid (show openN oneKey twoN T 18 cT 1 = 2 from by rw [← hT]; exact open_sealN oneKey twoN abT 2 cT 1 (by omega) (by omega))
  have HBK := Lib.hid (show ∀ i, i < 2 → xo oneKey twoN 1 T i = abT i from fun i hi => by rw [← hT]; exact box_back oneKey twoN abT 2 cT 1 hi)
  have HSN := Lib.hid (show sealN 2 1 = 18 from rfl)
  have HSE := Lib.hid (show sealE 2 1 = 0 from rfl)
  clear hT
  have HCV := Lib.hid (show ∀ (w : World) (C : Array Value) (n c : Nat), (convert 23 23 (.slice (some ⟨w.heap.size, 0, none⟩) n c)).run Try.prog (w.alloc (.cells C 5)) = .ok (.slice (some ⟨w.heap.size, 0, none⟩) n c) (w.alloc (.cells C 5 (C.size, C.size + 1))) from fun w C n c => Lib.run_convert_bytes_const w 23 5 C n c Try.underlying23 Try.underlying5)
  have HCX := Lib.hid (show ∀ (w1 : Obj) (C : Array Value) (n c : Nat), (convert 23 23 (.slice (some ⟨w.heap.size + 1, 0, none⟩) n c)).run Try.prog ((w.alloc w1).alloc (.cells C 5)) = .ok (.slice (some ⟨w.heap.size + 1, 0, none⟩) n c) ((w.alloc w1).alloc (.cells C 5 (C.size, C.size + 1))) from fun w1 C n c => by
    have h := Lib.run_convert_bytes_const (P := Try.prog) (w.alloc w1) 23 5 C n c Try.underlying23 Try.underlying5
    rwa [World.size_alloc] at h)
  go_enter Try.func23, Try.ntmps23
  go_wp2_with fail
  rw [HCV.out]
  go_wp2_with (simp only [HCX.out, Result.andThen_ok])
  have r1 : Rd ((w.alloc (.cells #[.int .u8 97, .int .u8 98] 5 (2, 3))).alloc (.cells #[.int .u8 99] 5 (1, 2))) (some ⟨w.heap.size, 0, none⟩) 2 abT := Rd.below (w := w.alloc (.cells #[.int .u8 97, .int .u8 98] 5 (2, 3))) (rd_marked rfl rfl) (below_alloc (Below.refl _ _) _) (Nat.le_refl _)
  have r2 : Rd ((w.alloc (.cells #[.int .u8 97, .int .u8 98] 5 (2, 3))).alloc (.cells #[.int .u8 99] 5 (1, 2))) (some ⟨w.heap.size + 1, 0, none⟩) 1 cT := rd_marked (by simp) rfl
  refine (HS.out (some ⟨w.heap.size, 0, none⟩) 2 2 abT abT_lt (some ⟨w.heap.size + 1, 0, none⟩) 1 1 cT cT_lt (Nat.le_refl _) _ r1 r2).mono ?_
  rintro e w1 ⟨A', c', rfl, o, hb⟩
  rw [HT.out, HSN.out] at o
  rw [HSN.out, HSE.out]
  have O1 := Lib.hid o
  have LB := Lib.hid (below_new (below_alloc (Below.refl _ _) _) hb)
  clear o hb r1 r2
  go_wp2_with (simp only [HCV.out, Result.andThen_ok])
  have r2 : Rd (w1.alloc (.cells #[.int .u8 99] 5 (1, 2))) (some ⟨w1.heap.size, 0, none⟩) 1 cT := rd_marked rfl rfl
  refine (HO.out A' 18 18 T HTB.out (some ⟨w1.heap.size, 0, none⟩) 1 1 cT cT_lt (Nat.le_refl _) (by omega) (Nat.le_refl _) _ ((O1.out.alloc _).rd) r2).mono ?_
  rintro e w2 ⟨A2, rfl, hr2, hnil, hb⟩
  rw [HON.out] at hr2 hnil
  rw [HON.out, HOE.out]
  have R2 := Lib.hid hr2
  have LB2 := Lib.hid (below_new LB.out hb)
  clear hr2 hnil hb LB O1 r2
  go_wp2_with fail
  refine (HO.out none 0 0 cT cT_lt none 0 0 cT cT_lt (Nat.le_refl _) (by omega) (Nat.le_refl _) _ (.inl rfl) (.inl rfl)).mono ?_
  rintro e w3 ⟨A3, rfl, hr3, hnil, hb⟩
  rw [show openN oneKey twoN cT 0 cT 0 = 0 from rfl, show openE oneKey twoN cT 0 cT 0 = 10 from rfl]
  have R3 := Lib.hid (R2.out.below hb (Nat.le_refl _))
  have LB3 := Lib.hid (below_trans LB2.out hb)
  clear hr3 hnil hb LB2 R2
  have hcv2 := run_string_of (P := Try.prog) (c := 2) 23 9 5 Try.underlying23 Try.underlying5 Try.underlying9 R3.out
  rw [strOf_congr HBK.out, show strOf abT 2 = (⟨#[97, 98]⟩ : ByteArray) from rfl] at hcv2
  go_wp2_with fail
  refine (counter_any 1 (by omega) _).mono ?_
  rintro e w4 ⟨rfl, hb4⟩
  rw [X1.out]
  have LB4 := Lib.hid (below_trans LB3.out hb4)
  clear hb4 LB3 hcv2
  go_wp2_with (simp only [E1.out, Result.andThen_ok])
  go_ret
  exact ⟨rfl, LB4.out⟩

end Aead
end Go.Proofs.Ytdffbjlbhjppeaa
