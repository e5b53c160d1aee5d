/- Pair of package text: what stands ahead of a =, and behind it. -/
import Derived.Test.YtkigkoeanhepkaaKit
import Derived.Laws.DeepStrings4
import Derived.Lib.Strings
import Derived.Lib.Bytealg
import Derived.Lib.IndexLaws
import Derived.Laws.Strings3
namespace Go.Proofs.Ytkigkoeanhepkaa
namespace Text
open Go.ChangeShapes Go.WideShapes Go.ChangeAt Go.RowKit Go.Lib
open Num Mem

set_option maxHeartbeats 1000000 in
theorem indexByte_any (s : ByteArray) (c : Int) (w : World) :
    Calls Try.prog 34 #[.string s, .int .u8 c] w fun e w' => e = .returned (.int .i64 (Lib.indexByte s.data.toList c.toNat.toUInt8)) ∧ w' = w := by
  go_enter Try.func34, Try.ntmps34
  go_wp2
  rw [run_callFunc_extern Try.func38 (by kernel_rfl) (by kernel_rfl) (by kernel_rfl) (e := Extern.BytealgIndexByte.indexByte) (by kernel_rfl), Lib.run_indexByteString]
  simp only [Result.andThen]
  rw [Oper.upon_value]
  go_wp2
  go_ret
  exact ⟨rfl, rfl⟩

set_option maxHeartbeats 2000000 in
set_option maxRecDepth 100000 in
theorem index_one (s : ByteArray) (c : UInt8) (w : World) :
    Calls Try.prog 33 #[.string s, .string ⟨#[c]⟩] w fun e w' => e = .returned (.int .i64 (Lib.indexByte s.data.toList c)) ∧ w' = w := by
  go_enter Try.func33, Try.ntmps33
  go_wp2_with (go_at_call 34; refine (indexByte_any _ _ _).mono ?_; rintro e w' ⟨rfl, rfl⟩)
  · have h : ([c] == s.toList) = true := by assumption
    go_ret
    refine ⟨?_, rfl⟩
    have e : s.data.toList = [c] := by rw [← Lib.toList_data]; exact (beq_iff_eq.1 h).symm
    rw [e]
    simp [Lib.indexByte]
  · go_ret
    exact ⟨rfl, rfl⟩

theorem get_chr (s : ByteArray) (i : Nat) (h : i < s.size) : s.data.toList[i]? = some (UInt8.ofNat (chr s i)) := by
  have h' : i < s.data.toList.length := by simpa using h
  unfold chr
  rw [List.getD_eq_getElem?_getD, List.getElem?_eq_getElem h']
  simp

theorem chr_of_get {s : ByteArray} {i : Nat} (h : s.data.toList[i]? = some 61) : i < s.size ∧ chr s i = 61 := by
  have h1 : i < s.data.toList.length := by
    rcases Nat.lt_or_ge i s.data.toList.length with h2 | h2
    · exact h2
    · rw [List.getElem?_eq_none h2] at h; cases h
  have h2 : i < s.size := by simpa using h1
  refine ⟨h2, ?_⟩
  unfold chr
  rw [List.getD_eq_getElem?_getD, h]
  rfl

/-- where the first = stands, or that there is none -/
theorem equals_at (s : ByteArray) : (Lib.indexByte s.data.toList 61 = -1 ∧ ∀ j, j < s.size → chr s j ≠ 61) ∨
    ∃ p : Nat, Lib.indexByte s.data.toList 61 = p ∧ p < s.size ∧ (∀ j, j < p → chr s j ≠ 61) ∧ chr s p = 61 := by
  have hge := Lib.indexByte_ge s.data.toList 61
  by_cases h : Lib.indexByte s.data.toList 61 = -1
  · refine .inl ⟨h, fun j hj e => ?_⟩
    refine Lib.indexByte_none h j ?_
    rw [get_chr s j hj, e]
    rfl
  · obtain ⟨p, hp⟩ : ∃ p : Nat, Lib.indexByte s.data.toList 61 = p := ⟨(Lib.indexByte s.data.toList 61).toNat, by omega⟩
    obtain ⟨h1, h2⟩ := Lib.indexByte_some hp
    obtain ⟨h3, h4⟩ := chr_of_get h1
    refine .inr ⟨p, hp, h3, fun j hj e => ?_, h4⟩
    refine h2 j hj ?_
    rw [get_chr s j (by omega), e]
    rfl

set_option maxHeartbeats 2000000 in
theorem cut_no (s : ByteArray) (h : Lib.indexByte s.data.toList 61 = -1) (w : World) :
    Calls Try.prog 32 #[.string s, .string { data := #[61] }] w fun e w' => e = .returned (.tuple #[.string s, .string { data := #[] }, .bool false]) ∧ w' = w := by
  go_enter Try.func32, Try.ntmps32
  go_wp2_with (go_at_call 33; refine (index_one _ 61 _).mono ?_; rintro e w' ⟨rfl, rfl⟩; rw [h])
  go_ret3
  exact ⟨rfl, rfl⟩

set_option maxHeartbeats 2000000 in
theorem cut_yes (s : ByteArray) (p : Nat) (h : Lib.indexByte s.data.toList 61 = p) (hp : p < s.size) (hs : s.size < 2 ^ 62) (w : World) :
    Calls Try.prog 32 #[.string s, .string { data := #[61] }] w fun e w' => e = .returned (.tuple #[.string (s.extract 0 p), .string (s.extract (p + 1) s.size), .bool true]) ∧ ∃ d, w' = w.drewN d := by
  have c1 : (0 : Int) ≤ (p : Int) := Int.natCast_nonneg _
  have c2 : (p : Int) ≤ (s.size : Int) := by omega
  have c3 : (0 : Int) ≤ (p : Int) + 1 := by omega
  have c4 : (p : Int) + 1 ≤ (s.size : Int) := by omega
  go_enter Try.func32, Try.ntmps32
  go_wp2_with (go_at_call 33; refine (index_one _ 61 _).mono ?_; rintro e w' ⟨rfl, rfl⟩; rw [h])
  have hw : IntKind.i64.wrap ((p : Int) + 1) = (p : Int) + 1 := by rw [IntKind.wrap_i64]; omega
  go_region
  go_wp2
  go_ret3
  exact ⟨rfl, _, rfl⟩

set_option maxHeartbeats 2000000 in
theorem scut_no (s : ByteArray) (h : Lib.indexByte s.data.toList 61 = -1) (w : World) :
    Calls Try.prog 25 #[.string s, .string { data := #[61] }] w fun e w' => e = .returned (.tuple #[.string s, .string { data := #[] }, .bool false]) ∧ w' = w := by
  go_enter Try.func25, Try.ntmps25
  go_wp2_with (go_at_call 32; refine (cut_no _ h _).mono ?_; rintro e w' ⟨rfl, rfl⟩)
  go_ret3
  exact ⟨rfl, rfl⟩

set_option maxHeartbeats 2000000 in
theorem scut_yes (s : ByteArray) (p : Nat) (h : Lib.indexByte s.data.toList 61 = p) (hp : p < s.size) (hs : s.size < 2 ^ 62) (w : World) :
    Calls Try.prog 25 #[.string s, .string { data := #[61] }] w fun e w' => e = .returned (.tuple #[.string (s.extract 0 p), .string (s.extract (p + 1) s.size), .bool true]) ∧ ∃ d, w' = w.drewN d := by
  go_enter Try.func25, Try.ntmps25
  go_wp2_with (go_at_call 32; refine (cut_yes _ _ h hp hs _).mono ?_; rintro e w' ⟨rfl, d, rfl⟩)
  go_ret3
  exact ⟨rfl, d, rfl⟩

set_option maxHeartbeats 2000000 in
theorem pair_no (s : ByteArray) (h : Lib.indexByte s.data.toList 61 = -1) (w : World) :
    Calls Try.prog 13 #[.string s] w fun e w' => e = .returned (.tuple #[.string s, .string { data := #[] }, .bool false]) ∧ w' = w := by
  go_enter Try.func13, Try.ntmps13
  go_wp2_with (go_at_call 25; refine (scut_no _ h _).mono ?_; rintro e w' ⟨rfl, rfl⟩)
  go_ret3
  exact ⟨rfl, rfl⟩

set_option maxHeartbeats 2000000 in
theorem pair_yes (s : ByteArray) (p : Nat) (h : Lib.indexByte s.data.toList 61 = p) (hp : p < s.size) (hs : s.size < 2 ^ 62) (w : World) :
    Calls Try.prog 13 #[.string s] w fun e w' => e = .returned (.tuple #[.string (s.extract 0 p), .string (s.extract (p + 1) s.size), .bool true]) ∧ ∃ d, w' = w.drewN d := by
  go_enter Try.func13, Try.ntmps13
  go_wp2_with (go_at_call 25; refine (scut_yes _ _ h hp hs _).mono ?_; rintro e w' ⟨rfl, d, rfl⟩)
  go_ret3
  exact ⟨rfl, d, rfl⟩

end Text
end Go.Proofs.Ytkigkoeanhepkaa
