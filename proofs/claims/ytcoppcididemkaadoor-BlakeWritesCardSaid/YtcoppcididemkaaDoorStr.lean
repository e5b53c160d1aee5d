/- Rows of bytes and strings of bytes: a slice that reads as a function of the place (nil and empty ones too), the string of such a function, and what the conversions between both make. -/
import Derived.Test.YtcoppcididemkaaDoorMem
import Derived.Laws.BytesArg
import Derived.Laws.BytesString
namespace Go.Proofs.YtcoppcididemkaaDoor
namespace Mem
open Go.RowKit

/-- a slice of n bytes at A reads as f -/
def Rd (w : World) (A : Option Addr) (n : Nat) (f : Nat → Nat) : Prop := n = 0 ∨ ∃ b off, A = some ⟨b, off, none⟩ ∧ b < w.heap.size ∧ ∀ i, i < n → w.cell? ⟨b, off + i, none⟩ = some (.int .u8 (f i : Nat))

theorem Rd.below {w w' : World} {A : Option Addr} {n : Nat} {f : Nat → Nat} {B : Nat} (h : Rd w A n f) (hb : Below B w w') (hB : w.heap.size ≤ B) : Rd w' A n f := by
  rcases h with h | ⟨b, off, hA, hlt, hc⟩
  · exact .inl h
  · exact .inr ⟨b, off, hA, Nat.lt_of_lt_of_le hlt hb.size, fun i hi => (hb.cell (p := ⟨b, off + i, none⟩) (Nat.lt_of_lt_of_le hlt hB)).trans (hc i hi)⟩

theorem Rd.drewN {w : World} {A : Option Addr} {n : Nat} {f : Nat → Nat} (h : Rd w A n f) (k : Nat) : Rd (w.drewN k) A n f := h

/-- a row that the call itself made -/
theorem Rd.of_whole {w : World} {g n : Nat} {t : TypeId} {f : Nat → Nat} (h : Whole w g t (byteCells f n).toArray) : Rd w (some ⟨g, 0, none⟩) n f := by
  refine .inr ⟨g, 0, rfl, h.lt, fun i hi => ?_⟩
  rw [Nat.zero_add, h.cell, List.getElem?_toArray, byteCells_get f n i hi]

/-- a row that has just been laid -/
theorem Rd.of_new {w : World} {g n : Nat} {t : TypeId} {cs : Array Value} {f : Nat → Nat} (hg : g = w.heap.size) (hc : cs = (byteCells f n).toArray) : Rd (w.alloc (.cells cs t)) (some ⟨g, 0, none⟩) n f := by
  subst hg
  subst hc
  exact Rd.of_whole (Whole.new _ _ _)

/-- a slice of bytes that came in reads as a function -/
theorem rd_of_row {w : World} {a : Option Addr} {len cap : Nat} {zs : List Int} (h : IsRow .u8 w a len cap zs) :
    ∃ f : Nat → Nat, (∀ i, f i < 256) ∧ Rd w a len f ∧ len ≤ cap ∧ cap ≤ 9223372036854775807 := by
  rcases h with ⟨rfl, rfl, rfl, rfl⟩ | ⟨x, rfl, hl, hm, hz, hcell, hwz⟩
  · exact ⟨fun _ => 0, fun _ => Nat.zero_lt_succ 255, .inl rfl, by omega, by omega⟩
  · refine ⟨fun i => (zs.getD i 0).toNat % 256, fun i => Nat.mod_lt _ (by omega), ?_, hl, by simpa [maxLen] using hm⟩
    rcases Nat.eq_zero_or_pos len with h0 | h0
    · exact .inl h0
    · obtain ⟨b, off, spot⟩ := x
      have hc := hcell 0 (by omega)
      have hspot : spot = none := by simpa [Addr.add] using World.cell?_spot hc
      subst hspot
      refine .inr ⟨b, off, rfl, ?_, fun i hi => ?_⟩
      · rcases Nat.lt_or_ge b w.heap.size with k | k
        · exact k
        · exfalso
          simp [Addr.add, World.cell?, Array.getElem?_eq_none k] at hc
      · have hci := hcell i (by omega)
        have hadd : (⟨b, off, none⟩ : Addr).add i = ⟨b, off + i, none⟩ := by unfold Addr.add; split <;> simp_all
        rw [hadd] at hci
        have hil : i < zs.length := by omega
        have hw := hwz (zs.getD i 0) (by simp [List.getD, hil])
        obtain ⟨v, hv, hv2⟩ := nat_u8 hw
        have e : (zs.getD i 0).toNat % 256 = v := by rw [hv]; omega
        show _ = some (Value.int .u8 (((zs.getD i 0).toNat % 256 : Nat) : Int))
        rw [hci, e, hv]

/-- the string of n bytes that a function tells -/
def strOf (g : Nat → Nat) (n : Nat) : ByteArray := ⟨((List.range n).map fun i => UInt8.ofNat (g i)).toArray⟩

theorem strOf_size (g : Nat → Nat) (n : Nat) : (strOf g n).size = n := by simp [strOf, ByteArray.size]
theorem strOf_congr {f g : Nat → Nat} {n : Nat} (h : ∀ i, i < n → f i = g i) : strOf f n = strOf g n := by
  unfold strOf
  rw [List.map_congr_left (fun i hi => by rw [h i (List.mem_range.1 hi)])]

/-- two such strings are one if they are as long, and tell the same bytes -/
theorem strOf_eq_iff {f g : Nat → Nat} {n m : Nat} (hf : ∀ i, f i < 256) (hg : ∀ i, g i < 256) : strOf f n = strOf g m ↔ n = m ∧ ∀ i, i < n → f i = g i := by
  constructor
  · intro h
    have e : n = m := by
      have := congrArg ByteArray.size h
      rwa [strOf_size, strOf_size] at this
    subst e
    refine ⟨rfl, fun i hi => ?_⟩
    have h2 : ((List.range n).map fun i => UInt8.ofNat (f i)) = ((List.range n).map fun i => UInt8.ofNat (g i)) := by
      have := congrArg (fun s : ByteArray => s.data.toList) h
      simpa [strOf] using this
    have h3 := congrArg (fun l : List UInt8 => l[i]?) h2
    simp only [List.getElem?_map, List.getElem?_range hi, Option.map_some, Option.some.injEq] at h3
    have h4 := congrArg UInt8.toNat h3
    simp only [UInt8.toNat_ofNat'] at h4
    have := hf i
    have := hg i
    omega
  · rintro ⟨rfl, h⟩
    exact strOf_congr h

/-- byte i of a string -/
def chr (s : ByteArray) (i : Nat) : Nat := (s.data.toList.getD i 0).toNat
theorem chr_lt (s : ByteArray) (i : Nat) : chr s i < 256 := (s.data.toList.getD i 0).toNat_lt
theorem chr_get (s : ByteArray) (i : Nat) (h : i < s.size) : (s[i]'h).toNat = chr s i := by
  have h' : i < s.data.size := h
  show (s.data[i]'h').toNat = (s.data.toList[i]?.getD 0).toNat
  rw [Array.getElem?_toList, Array.getElem?_eq_getElem h']
  rfl
theorem strOf_chr (s : ByteArray) : strOf (chr s) s.size = s := by
  have : s.data.size = s.size := rfl
  rcases s with ⟨d⟩
  unfold strOf
  congr 1
  apply Array.ext_getElem?
  intro i
  by_cases h : i < d.size
  · simp [chr, h, List.getD, ByteArray.size]
  · simp [chr, h, ByteArray.size]

theorem strOfNums_eq (f : Nat → Nat) (n : Nat) : strOfNums ((List.range n).map fun i => ((f i : Nat) : Int)) = strOf f n := by
  unfold strOfNums strOf
  simp

/-- 'string(b)' -/
theorem run_string_of {P : Program} {w : World} {A : Option Addr} {n c : Nat} {f : Nat → Nat} (src dst e : TypeId) (hs : P.underlying src = some (.slice e)) (he : P.underlying e = some (.int .u8)) (hd : P.underlying dst = some .string)
    (h : Rd w A n f) : (convert src dst (.slice A n c)).run P w = .ok (.string (strOf f n)) w := by
  rcases h with rfl | ⟨b, off, rfl, _, hc⟩
  · rcases A with _ | a
    · rw [run_convert_bytes_nil w src e hs he 0 c dst hd]
      rfl
    · rw [run_convert_bytes_string w src dst e _ 0 c hs he hd, run_bytesToString w a 0 c [] (by
        have := run_loadCells_list (P := P) w a [] (fun j v hj => by simp at hj)
        simpa using this)]
      rfl
  · have := run_convert_bytes_arg (P := P) w src e hs he b off n c ((List.range n).map fun i => ((f i : Nat) : Int)) (by simp) (fun i hi => by
      rw [hc i hi]
      simp [hi, List.getD]) dst hd
    rwa [strOfNums_eq] at this

end Mem
end Go.Proofs.YtcoppcididemkaaDoor
