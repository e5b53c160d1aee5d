/- Joined texts (mkpack.py): AeadAll. -/
import Derived.Test.YtdhjgenijieeaaaPkAead2
/-! from AeadAll -/
namespace Go.Proofs.Ytdhjgenijieeaaa
namespace Aead
open Go.ChangeShapes Go.WideShapes Go.ChangeAt Go.RowKit
open Num Mem Words PolyN Chacha Quiet Poly
/-- four noughts, and eight bytes behind them -/
def bn (f : Nat → Nat) (i : Nat) : Nat := if 4 ≤ i then f (i - 4) else 0
theorem bn_lt {f : Nat → Nat} (h : ∀ i, f i < 256) (i : Nat) : bn f i < 256 := by
  have := h (i - 4)
  unfold bn
  split <;> omega
set_option maxRecDepth 100000 in
theorem behind_any (b off c : Nat) (f : Nat → Nat) (w : World) (hb : b < w.heap.size) (hr : ∀ i, i < 8 → w.cell? ⟨b, off + i, none⟩ = some (.int .u8 (f i : Nat))) :
    Calls Try.prog 35 #[.slice (some ⟨b, off, none⟩) 8 c] w fun e w' => e = .returned (.agg (byteCells (bn f) 12).toArray) ∧ Below w.heap.size w w' := by
  have hrd : Rd w (some ⟨b, off, none⟩) 8 f := .inr ⟨b, off, rfl, hb, hr⟩
  have HR := Lib.hid hrd
  clear hr hrd
  go_enter Try.func35, Try.ntmps35
  go_upto_region 2 with fail
  refine cut_world (fun W => Whole W w.heap.size 76 (byteCells (fun _ => 0) 12).toArray ∧ Whole W (w.heap.size + 1) 76 (byteCells (fun _ => 0) 12).toArray ∧ Below w.heap.size w W) ⟨?_, ?_, ?_⟩ ?_
  · exact (whole_new _ _ (by simp)).alloc _
  · exact whole_new _ _ (by simp)
  · exact below_alloc (below_alloc (Below.refl _ _) _) _
  rintro W ⟨k1, k2, kb⟩
  have K1 := Lib.hid k1
  have K2 := Lib.hid k2
  have KB := Lib.hid kb
  have HS := Lib.hid (show ∀ (j : Nat) (v : Value), (byteCells f 8)[j]? = some v → W.cell? ((⟨b, off, none⟩ : Addr).add j) = some v from by
    rcases HR.out.below kb (Nat.le_refl _) with h | ⟨b', off', e, _, hc⟩
    · omega
    · injection e with e
      injection e with e1 e2
      subst e1
      subst e2
      exact rd_src hc)
  have hl2 := k2.lt
  clear k1 k2 kb
  generalize hB : w.heap.size = B at K1 K2 KB hl2 ⊢
  have HZ12 := Lib.hid (show ∀ f, (byteCells f 12).toArray.size = 12 from fun f => by rw [List.size_toArray, byteCells_length])
  go_upto_region 3 with (refine wpList_copy rfl (.tmp 4) (.tmp 5) 38 38 rfl 5 rfl (by kernel_rfl) (B + 1) 4 8 8 ⟨b, off, none⟩ 8 c rfl rfl (byteCells (fun _ => 0) 12) 76 K2.out (byteCells f 8) (by rw [byteCells_length]; rfl) HS.out (by rw [byteCells_length, byteCells_length]; omega) (bytes_each _ _) ?_; intro w8 hg8 hb8)
  have L2 := Lib.hid (show Whole w8 (B + 1) 76 (byteCells (bn f) 12).toArray from by
    have h := hg8.out
    rw [byteCells_splice (fun _ => 0) f (bn f) 12 4 8 (by omega) (fun i hi => by
      unfold bn
      by_cases l : 4 ≤ i
      · rw [if_pos l, if_pos ⟨by omega, by omega⟩]
      · rw [if_neg l, if_neg (by omega)])] at h
    exact h)
  have L1 := Lib.hid (whole_grown (w := w8) K1.out hb8 (by omega))
  have LB := Lib.hid (below_grown KB.out hb8 (by omega) (by omega))
  clear hg8 hb8 K1 K2 KB HS
  go_wp2_with (first | (refine wpList_load_row rfl 76 (.tmp 3) rfl (B + 1) rfl 76 (byteCells (bn f) 12).toArray (0, 0) _ L2.out rfl rfl (by rw [HZ12.out]; kernel_rfl) ?_) | (refine wpList_store_row rfl 76 (.tmp 2) (.tmp 7) rfl B (byteCells (bn f) 12).toArray rfl rfl 76 _ L1.out (by rw [HZ12.out]; kernel_rfl) (by rw [HZ12.out, HZ12.out]) (bytes_one _ _) ?_))
  have hret : Whole (w8.setRow B (byteCells (bn f) 12).toArray) B 76 (byteCells (bn f) 12).toArray := setRow_heap w8 _ _ _ _ _ L1.out
  refine bodyPost_ret (results_cell_row rfl _ _ B 76 _ (0, 0) _ rfl hret rfl rfl (by rw [HZ12.out]; kernel_rfl)) rfl ?_
  exact ⟨rfl, by rw [hB]; exact below_setRow LB.out (by omega) _⟩
set_option maxRecDepth 100000 in
theorem counter_any (v : Nat) (hv : v < 18446744073709551616) (w : World) :
    Calls Try.prog 26 #[.int .u64 v] w fun e w' => e = .returned (.agg (byteCells (bn (byteAt v)) 12).toArray) ∧ Below w.heap.size w w' := by
  have HZ12 := Lib.hid (show ∀ f, (byteCells f 12).toArray.size = 12 from fun f => by rw [List.size_toArray, byteCells_length])
  have HZ8 := Lib.hid (show ∀ f, (byteCells f 8).toArray.size = 8 from fun f => by rw [List.size_toArray, byteCells_length])
  go_enter Try.func26, Try.ntmps26
  go_upto_region 1 with fail
  refine cut_world (fun W => Whole W w.heap.size 76 (byteCells (fun _ => 0) 12).toArray ∧ Below w.heap.size w W) ⟨?_, ?_⟩ ?_
  · exact whole_new _ _ (by simp)
  · exact below_alloc (Below.refl _ _) _
  rintro W ⟨k1, kb⟩
  have K1 := Lib.hid k1
  have KB := Lib.hid kb
  have hl1 := k1.lt
  clear k1 kb
  generalize hB : w.heap.size = B at K1 KB hl1 ⊢
  go_wp2_with fail
  refine (put64_any v hv _).mono ?_
  rintro e w1 ⟨rfl, hb1⟩
  have L1 := Lib.hid (K1.out.below hb1 K1.out.lt)
  have LB := Lib.hid (KB.out.trans (hb1.mono (by omega)))
  have hs1 := hb1.size
  clear hb1 K1 KB
  go_upto_region 2 with (refine wpList_store_row rfl 86 (.tmp 3) (.tmp 5) rfl w1.heap.size (byteCells (byteAt v) 8).toArray rfl rfl 86 _ (Whole.new _ _ _) (by rw [HZ8.out]; kernel_rfl) (by rw [HZ8.out]; rfl) (bytes_one _ _) ?_)
  try simp only [Act.put]
  refine cut_world (fun W => Whole W B 76 (byteCells (fun _ => 0) 12).toArray ∧ Whole W w1.heap.size 86 (byteCells (byteAt v) 8).toArray ∧ Below B w W) ⟨?_, ?_, ?_⟩ ?_
  · exact (setRow_other _ _ _ _ (by omega)).trans (L1.out.alloc _)
  · exact setRow_heap _ _ _ _ _ _ (Whole.new _ _ _)
  · exact below_setRow (LB.out.alloc (by omega) _) (by omega) _
  rintro W2 ⟨k1, k3, kb⟩
  have K1 := Lib.hid k1
  have K3 := Lib.hid k3
  have KB := Lib.hid kb
  have hl3 := k3.lt
  have hG : B < w1.heap.size := by omega
  clear k1 k3 kb L1 LB hs1 hl1
  generalize w1.heap.size = G at K3 hl3 hG ⊢
  go_wp2_with fail
  refine (behind_any G 0 8 (byteAt v) _ (by omega) (fun i hi => K3.out.bytes i hi)).mono ?_
  rintro e w3 ⟨rfl, hb3⟩
  have L1 := Lib.hid (K1.out.below hb3 K1.out.lt)
  have LB := Lib.hid (KB.out.trans (hb3.mono (by omega)))
  clear hb3 K1 K3 KB
  generalize hF : bn (byteAt v) = F at ⊢
  go_wp2_with (refine wpList_store_row rfl 76 (.tmp 2) (.tmp 7) rfl B (byteCells F 12).toArray rfl rfl 76 _ L1.out (by rw [HZ12.out]; kernel_rfl) (by rw [HZ12.out, HZ12.out]) (bytes_one _ _) ?_)
  have hret : Whole (w3.setRow B (byteCells F 12).toArray) B 76 (byteCells F 12).toArray := setRow_heap w3 _ _ _ _ _ L1.out
  refine bodyPost_ret (results_cell_row rfl _ _ B 76 _ (0, 0) _ rfl hret rfl rfl (by rw [HZ12.out]; kernel_rfl)) rfl ?_
  exact ⟨by rw [hF], by rw [hB]; exact below_setRow LB.out (by omega) _⟩
set_option maxRecDepth 100000 in
theorem tooLong_any (A1 A2 : Option Addr) (n1 c1 n2 c2 : Nat) (b : Bool) (hb : b = true ↔ 65536 < n1 ∨ 65536 < n2) (w : World) :
    Calls Try.prog 30 #[.slice A1 n1 c1, .slice A2 n2 c2] w fun e w' => e = .returned (.bool b) ∧ w = w' := by
  go_enter Try.func30, Try.ntmps30
  by_cases h1 : 65536 < n1
  · have hd1 : decide ((65536 : Int) < (n1 : Int)) = true := decide_eq_true (by omega)
    obtain rfl : b = true := hb.2 (.inl h1)
    go_wp2_with fail
    go_ret
    exact ⟨rfl, rfl⟩
  · have hd1 : decide ((65536 : Int) < (n1 : Int)) = false := decide_eq_false (by omega)
    by_cases h2 : 65536 < n2
    · have hd2 : decide ((65536 : Int) < (n2 : Int)) = true := decide_eq_true (by omega)
      obtain rfl : b = true := hb.2 (.inr h2)
      go_wp2_with fail
      go_ret
      exact ⟨rfl, rfl⟩
    · have hd2 : decide ((65536 : Int) < (n2 : Int)) = false := decide_eq_false (by omega)
      obtain rfl : b = false := by
        rcases b with _ | _
        · rfl
        · rcases hb.1 rfl with h | h <;> omega
      go_wp2_with fail
      go_ret
      exact ⟨rfl, rfl⟩
end Aead
end Go.Proofs.Ytdhjgenijieeaaa
namespace Go.Proofs.Ytdhjgenijieeaaa
namespace Aead
open Go.ChangeShapes Go.WideShapes Go.ChangeAt Go.RowKit
open Num Mem Words PolyN Chacha Quiet Poly Ref
/-- parts, one behind the other: how long, and what -/
def joN (p : Parts) : Nat → Nat
  | 0 => 0
  | k + 1 => joN p k + p.n k
def joF (p : Parts) : Nat → Nat → Nat
  | 0, _ => 0
  | k + 1, i => if i < joN p k then joF p k i else p.f k (i - joN p k)
set_option maxRecDepth 100000 in
set_option maxHeartbeats 1000000 in
theorem join_any (P : Option Addr) (K c : Nat) (p : Parts) (hK : K ≤ 100) (w : World) (hP : p.In w P K) (hN : ∀ i, i < K → p.A i = none → p.n i = 0 ∧ p.c i = 0) :
    Calls Try.prog 33 #[.slice P K c] w fun e w' => ∃ A c', e = .returned (.slice A (joN p K) (joN p K)) ∧ Own w' w.heap.size 5 A (joN p K) c' (joF p K) ∧ Below w.heap.size w w' := by
  have HP := Lib.hid hP
  have HN := Lib.hid hN
  clear hP hN
  go_enter Try.func33, Try.ntmps33
  go_wp2_with fail
  go_loopw [3, 8] (fun o i wr => ∃ (k : Nat) (A2 : Option Addr) (c2 : Nat), k ≤ K ∧ i = .int .i64 k ∧ o = .slice A2 (joN p k) c2 ∧ joN p k ≤ 1000000 * k ∧ Own wr w.heap.size 5 A2 (joN p k) c2 (joF p k) ∧ Below w.heap.size w wr) (fun _ i _ => K - (intOf i).toNat)
  case atStart => exact ⟨0, none, 0, Nat.zero_le _, rfl, rfl, Nat.zero_le _, Own.nil _ _ _ _, Below.refl _ _⟩
  case round =>
    obtain ⟨k, A2, c2, hkK, rfl, rfl, hcn, o2, l2⟩ := hrel
    have O2 := Lib.hid o2
    have L2 := Lib.hid l2
    have hsz := l2.size
    clear o2 l2
    by_cases hlt : k < K
    · obtain ⟨pb, po, rfl, hpb, hpc⟩ : ∃ b off, P = some ⟨b, off, none⟩ ∧ b < w.heap.size ∧ ∀ i, i < K → w.cell? ⟨b, off + i, none⟩ = some (.slice (p.A i) (p.n i) (p.c i)) := by
        rcases HP.out.2.2 with h | h
        · omega
        · exact h
      have hcell := (L2.out.cell (p := ⟨pb, po + k, none⟩) hpb).trans (hpc k hlt)
      have hpk := HP.out.1 k hlt
      have hnk' := HN.out k hlt
      have HSTEP := Lib.hid (show ∀ i, i < joN p k + p.n k → joF p (k + 1) i = if i < joN p k then joF p k i else (p.f k) (i - joN p k) from fun i _ => rfl)
      have HSN := Lib.hid (show joN p (k + 1) = joN p k + p.n k from rfl)
      obtain ⟨A0, hA0⟩ : ∃ x, p.A k = x := ⟨_, rfl⟩
      obtain ⟨n0, hn0⟩ : ∃ x, p.n k = x := ⟨_, rfl⟩
      obtain ⟨c0, hc0⟩ : ∃ x, p.c k = x := ⟨_, rfl⟩
      obtain ⟨f0, hf0⟩ : ∃ x, p.f k = x := ⟨_, rfl⟩
      obtain ⟨T1, hT1⟩ : ∃ x, joF p k = x := ⟨_, rfl⟩
      obtain ⟨T2, hT2⟩ : ∃ x, joF p (k + 1) = x := ⟨_, rfl⟩
      obtain ⟨N1, hN1⟩ : ∃ x, joN p k = x := ⟨_, rfl⟩
      have HT2 := Lib.hid hT2
      rw [hA0, hn0, hc0] at hcell
      rw [hA0, hn0, hc0, hf0] at hpk
      rw [hA0, hn0, hc0] at hnk'
      rw [hn0] at HSN
      rw [hn0, hf0, hT1, hT2, hN1] at HSTEP
      rw [hN1] at HSN hcn O2
      rw [hT1] at O2
      have HR0 := Lib.hid (hpk.1.below L2.out (Nat.le_refl _))
      have HNK := Lib.hid hnk'
      have hn1 := hpk.2.2
      clear hA0 hn0 hc0 hf0 hT1 hT2 hpk hnk' hpc
      try rw [hN1]
      go_wp2_with (at_builtin; refine wpList_catFrom (T := T2) rfl (.tmp 12) (.tmp 13) 38 5 (.int .u8 0) 1 Try.underlying38 info_u8 rfl rfl rfl O2.out L2.out hsz n0 c0 A0 rfl (src_rd HR0.out HNK.out) (by omega) (by omega) HSTEP.out ?_; intro A5 c5 w5 o5 hb5 hs5 _ _; have O5 := Lib.hid o5; have L5 := Lib.hid hb5; clear o5 hb5)
      go_roundw
      case rel => exact ⟨k + 1, A5, c5, by omega, by go_num, by rw [HSN.out], by rw [HSN.out]; omega, by rw [HSN.out, HT2.out]; exact O5.out, L5.out⟩
      case measure => simp [intOf]; omega
    · obtain rfl : k = K := by omega
      have hcap := own_cap O2.out
      obtain ⟨T1, hT1⟩ : ∃ x, joF p k = x := ⟨_, rfl⟩
      obtain ⟨N1, hN1⟩ : ∃ x, joN p k = x := ⟨_, rfl⟩
      rw [hT1, hN1] at O2
      rw [hN1] at hcn hcap ⊢
      have HN1 := Lib.hid hN1
      have HT1 := Lib.hid hT1
      clear hT1 hN1
      rcases own_at O2.out with h0 | ⟨g, rfl, _, _⟩
      · subst h0
        obtain ⟨rfl, rfl⟩ : N1 = 0 ∧ c2 = 0 := by
          rcases (show wr.ownsRow _ _ _ _ _ _ from O2.out).2 with ⟨e, h⟩ | ⟨_, _, _, e, _⟩
          · injection e with _ _ e3
            exact ⟨h, e3⟩
          · injection e with e1
            cases e1
        go_wp2_with fail
        go_ret
        rw [HN1.out, HT1.out]
        exact ⟨none, 0, rfl, O2.out, L2.out⟩
      · go_wp2_with fail
        go_ret
        rw [HN1.out, HT1.out]
        exact ⟨_, c2, rfl, O2.out, L2.out⟩
end Aead
end Go.Proofs.Ytdhjgenijieeaaa
namespace Go.Proofs.Ytdhjgenijieeaaa
namespace Aead
open Go.ChangeShapes Go.WideShapes Go.ChangeAt Go.RowKit
open Num Mem Words State PolyN Chacha Quiet Poly Ref
theorem byteCells_lit24 (f : Nat → Nat) : (byteCells f 24).toArray = #[.int .u8 (f 0 : Nat), .int .u8 (f 1 : Nat), .int .u8 (f 2 : Nat), .int .u8 (f 3 : Nat), .int .u8 (f 4 : Nat), .int .u8 (f 5 : Nat), .int .u8 (f 6 : Nat), .int .u8 (f 7 : Nat), .int .u8 (f 8 : Nat), .int .u8 (f 9 : Nat), .int .u8 (f 10 : Nat), .int .u8 (f 11 : Nat), .int .u8 (f 12 : Nat), .int .u8 (f 13 : Nat), .int .u8 (f 14 : Nat), .int .u8 (f 15 : Nat), .int .u8 (f 16 : Nat), .int .u8 (f 17 : Nat), .int .u8 (f 18 : Nat), .int .u8 (f 19 : Nat), .int .u8 (f 20 : Nat), .int .u8 (f 21 : Nat), .int .u8 (f 22 : Nat), .int .u8 (f 23 : Nat)] := rfl
theorem results_cell_cell {fn : Func} {p q : Tmp} {ty ty2 : TypeId} {P : Program} (h : fn.results = #[.cell p ty, .cell q ty2]) (tmps : Array Value) (w : World) (g : Nat) (t : TypeId) (cs : List Value) (d : TypeDesc)
    (hp : tmps.getD p undef = .pointer (some ⟨g, 0, none⟩)) (hg : Whole w g t cs.toArray)
    (hu : P.underlying ty = some d) (hd : d.isRow = true) (hi : (P.info? ty).map (·.size) = some cs.length)
    (g2 : Nat) (t2 : TypeId) (cs2 : List Value) (d2 : TypeDesc)
    (hq : tmps.getD q undef = .pointer (some ⟨g2, 0, none⟩)) (hg2 : Whole w g2 t2 cs2.toArray)
    (hu2 : P.underlying ty2 = some d2) (hd2 : d2.isRow = true) (hi2 : (P.info? ty2).map (·.size) = some cs2.length) :
    (results fn tmps).run P w = .ok (.tuple #[.agg cs.toArray, .agg cs2.toArray]) w := by
  have hp' : tmps[p]?.getD undef = .pointer (some ⟨g, 0, none⟩) := by simpa using hp
  have hq' : tmps[q]?.getD undef = .pointer (some ⟨g2, 0, none⟩) := by simpa using hq
  simp [results, h, hp', hq', asAddr, run_loadVar_mid w g 0 ty cs d (whole_range hg) hu hd hi, run_loadVar_mid w g2 0 ty2 cs2 d2 (whole_range hg2) hu2 hd2 hi2]
end Aead
end Go.Proofs.Ytdhjgenijieeaaa
namespace Go.Proofs.Ytdhjgenijieeaaa
namespace Aead
open Go.ChangeShapes Go.WideShapes Go.ChangeAt Go.RowKit
open Num Mem Words State PolyN Chacha Quiet Poly Ref
/-- both lengths -/
def lens (a b i : Nat) : Nat := if i < 8 then byteAt a i else byteAt b (i - 8)
theorem lens_lt (a b i : Nat) : lens a b i < 256 := by
  unfold lens
  split <;> exact byteAt_lt _ _
/-- the mark with a key -/
def markW (O : Nat → Nat) (ft : Nat → Nat) (nt : Nat) (fo : Nat → Nat) (no : Nat) : Nat → Nat :=
  tag (mac (rk O) true (mac (rk O) true (mac (rk O) true 0 fo no) ft nt) (lens no nt) 16) O
def markF (key nonce : Nat → Nat) (ft : Nat → Nat) (nt : Nat) (fo : Nat → Nat) (no : Nat) : Nat → Nat := markW (blk key nonce 0) ft nt fo no
def lensP (G : Nat) (a b : Nat) : Parts := { A := fun i => some ⟨G + i, 0, none⟩, n := fun _ => 8, c := fun _ => 8, f := fun i => if i = 0 then byteAt a else byteAt b }
def bothP (Ao : Option Addr) (no co : Nat) (fo : Nat → Nat) (At : Option Addr) (nt ct : Nat) (ft : Nat → Nat) (Al : Option Addr) (fl : Nat → Nat) : Parts :=
  { A := fun i => if i = 0 then Ao else if i = 1 then At else Al, n := fun i => if i = 0 then no else if i = 1 then nt else 16, c := fun i => if i = 0 then co else if i = 1 then ct else 16, f := fun i => if i = 0 then fo else if i = 1 then ft else fl }
theorem macs_three (R : Nat) (p : Parts) : macs R p 3 = mac R true (mac R true (mac R true 0 (p.f 0) (p.n 0)) (p.f 1) (p.n 1)) (p.f 2) (p.n 2) := rfl
theorem lens_jo (G a b i : Nat) : joF (lensP G a b) 2 i = lens a b i := by
  have h : joF (lensP G a b) 2 i = if i < joN (lensP G a b) 1 then (if i < joN (lensP G a b) 0 then joF (lensP G a b) 0 i else byteAt a (i - 0)) else byteAt b (i - 8) := rfl
  rw [h, show joN (lensP G a b) 1 = 8 from rfl, show joN (lensP G a b) 0 = 0 from rfl, if_neg (by omega : ¬ i < 0), Nat.sub_zero]
  rfl
theorem lens_in {v : World} {F g a b : Nat} (hf : Whole v F 86 (byteCells (byteAt a) 8).toArray) (hg : Whole v (F + 1) 86 (byteCells (byteAt b) 8).toArray) (ha : ∀ i, byteAt a i < 256) (hb : ∀ i, byteAt b i < 256)
    (hr : Whole v g 38 #[.slice (some ⟨F, 0, none⟩) 8 8, .slice (some ⟨F + 1, 0, none⟩) 8 8]) : (lensP F a b).In v (some ⟨g, 0, none⟩) 2 := by
  refine ⟨fun i hi => ⟨?_, Nat.le_refl 8, by show 8 ≤ 1000000; omega⟩, fun i j => ?_, .inr ⟨g, 0, rfl, hr.lt, fun i hi => ?_⟩⟩
  · rcases i with _ | _ | i
    · exact .inr ⟨F, 0, rfl, hf.lt, fun j hj => hf.bytes j hj⟩
    · exact .inr ⟨F + 1, 0, rfl, hg.lt, fun j hj => hg.bytes j hj⟩
    · omega
  · show (if i = 0 then byteAt a else byteAt b) j < 256
    split
    · exact ha j
    · exact hb j
  · rw [Nat.zero_add, hr.cell]
    rcases i with _ | _ | i
    · rfl
    · rfl
    · omega
theorem both_in {v : World} {g : Nat} {Ao At Al : Option Addr} {no co nt ct : Nat} {fo ft fl : Nat → Nat} (ho : ∀ i, fo i < 256) (ht : ∀ i, ft i < 256) (hl : ∀ i, fl i < 256) (hno : no ≤ 1000000) (hnt : nt ≤ 1000000)
    (ro : Rd v Ao no fo) (rt : Rd v At nt ft) (rl : Rd v Al 16 fl) (hco : no ≤ co) (hct : nt ≤ ct)
    (hr : Whole v g 38 #[.slice Ao no co, .slice At nt ct, .slice Al 16 16]) : (bothP Ao no co fo At nt ct ft Al fl).In v (some ⟨g, 0, none⟩) 3 := by
  refine ⟨fun i hi => ?_, fun i j => ?_, .inr ⟨g, 0, rfl, hr.lt, fun i hi => ?_⟩⟩
  · rcases i with _ | _ | _ | i
    · exact ⟨ro, hco, hno⟩
    · exact ⟨rt, hct, hnt⟩
    · exact ⟨rl, Nat.le_refl 16, by show 16 ≤ 1000000; omega⟩
    · omega
  · show (if i = 0 then fo else if i = 1 then ft else fl) j < 256
    split
    · exact ho j
    · split
      · exact ht j
      · exact hl j
  · rw [Nat.zero_add, hr.cell]
    rcases i with _ | _ | _ | i
    · rfl
    · rfl
    · rfl
    · omega
/-- what stays while the mark is made -/
def SM (w : World) (B : Nat) (O : Nat → Nat) (X : World) : Prop := Whole X (B + 1 + 1 + 1) 23 (byteCells O 32).toArray ∧ Below B w X
theorem sm_below {w X Y : World} {B : Nat} {O : Nat → Nat} (h : SM w B O X) (hb : Below X.heap.size X Y) : SM w B O Y :=
  ⟨h.1.below hb h.1.lt, h.2.trans (hb.mono (by have := h.1.lt; omega))⟩
theorem sm_set {w X : World} {B g : Nat} {O : Nat → Nat} (h : SM w B O X) (h1 : B + 1 + 1 + 1 ≠ g) (h4 : B ≤ g) (cs : Array Value) : SM w B O (X.setRow g cs) :=
  ⟨(setRow_other _ _ _ _ h1).trans h.1, below_setRow h.2 h4 _⟩
set_option maxRecDepth 100000 in
set_option maxHeartbeats 1000000 in
theorem mark_any (key nonce : Nat → Nat) (hk : ∀ i, key i < 256) (hn : ∀ i, nonce i < 256) (At : Option Addr) (nt ct : Nat) (ft : Nat → Nat) (hft : ∀ i, ft i < 256) (Ao : Option Addr) (no co : Nat) (fo : Nat → Nat) (hfo : ∀ i, fo i < 256)
    (hct : nt ≤ ct) (hco : no ≤ co) (hnt : nt ≤ 65536) (hno : no ≤ 65536) (w : World) (hrt : Rd w At nt ft) (hro : Rd w Ao no fo) :
    Calls Try.prog 32 #[.agg (byteCells key 32).toArray, .agg (byteCells nonce 12).toArray, .slice At nt ct, .slice Ao no co] w fun e w' => e = .returned (.agg (byteCells (markF key nonce ft nt fo no) 16).toArray) ∧ Below w.heap.size w w' := by
  have HK := Lib.hid hk
  have HN := Lib.hid hn
  have HFT := Lib.hid hft
  have HFO := Lib.hid hfo
  have HRT := Lib.hid hrt
  have HRO := Lib.hid hro
  clear hk hn hft hfo hrt hro
  rw [byteCells_lit32, byteCells_lit12]
  go_enter Try.func32, Try.ntmps32
  go_upto_region 2 with fail
  refine cut_world (fun W => Whole W w.heap.size 24 (byteCells key 32).toArray ∧ Whole W (w.heap.size + 1) 76 (byteCells nonce 12).toArray ∧ Whole W (w.heap.size + 1 + 1) 83 (byteCells (fun _ => 0) 16).toArray ∧ Whole W (w.heap.size + 1 + 1 + 1) 23 (byteCells (fun _ => 0) 32).toArray ∧ Below w.heap.size w W) ⟨?_, ?_, ?_, ?_, ?_⟩ ?_
  · rw [byteCells_lit32]
    exact (((whole_new _ _ rfl).alloc _).alloc _).alloc _
  · rw [byteCells_lit12]
    exact ((whole_new _ _ (by simp)).alloc _).alloc _
  · exact (whole_new _ _ (by simp)).alloc _
  · exact whole_new _ _ (by simp)
  · exact below_alloc (below_alloc (below_alloc (below_alloc (Below.refl _ _) _) _) _) _
  rintro W ⟨k1, k2, k3, k4, kb⟩
  have K1 := Lib.hid k1
  have K2 := Lib.hid k2
  have K3 := Lib.hid k3
  have K4 := Lib.hid k4
  have KB := Lib.hid kb
  have hl4 := k4.lt
  clear k1 k2 k3 k4 kb
  generalize hB : w.heap.size = B at K1 K2 K3 K4 KB hl4 ⊢
  have HB := Lib.hid hB
  have HZ12 := Lib.hid (show ∀ f, (byteCells f 12).toArray.size = 12 from fun f => by rw [List.size_toArray, byteCells_length])
  have HZ16 := Lib.hid (show ∀ f, (byteCells f 16).toArray.size = 16 from fun f => by rw [List.size_toArray, byteCells_length])
  have HZ64 := Lib.hid (show ∀ f, (byteCells f 64).toArray.size = 64 from fun f => by rw [List.size_toArray, byteCells_length])
  have HZ8 := Lib.hid (show ∀ f, (byteCells f 8).toArray.size = 8 from fun f => by rw [List.size_toArray, byteCells_length])
  obtain ⟨O, hO⟩ : ∃ O, blk key nonce 0 = O := ⟨_, rfl⟩
  have HO := Lib.hid hO
  have HOB := Lib.hid (show ∀ i, O i < 256 from fun i => by rw [← hO]; exact blk_lt _ _ _ _)
  clear hO hB
  go_wp2_with (first | (refine wpList_load_row rfl 24 (.tmp 4) rfl B rfl 24 (byteCells key 32).toArray (0, 0) _ K1.out rfl rfl (by kernel_rfl) ?_) | (refine wpList_load_row rfl 76 (.tmp 5) rfl (B + 1) rfl 76 (byteCells nonce 12).toArray (0, 0) _ K2.out rfl rfl (by kernel_rfl) ?_))
  refine (block_any key nonce HK.out HN.out 0 (by omega) _).mono ?_
  rintro e w1 ⟨rfl, hb⟩
  rw [HO.out]
  have L3 := Lib.hid (K3.out.below hb K3.out.lt)
  have L4 := Lib.hid (K4.out.below hb K4.out.lt)
  have LB := Lib.hid (KB.out.trans (hb.mono (by omega)))
  have hs1 := hb.size
  clear hb K1 K2 K3 K4 KB
  go_upto_region 3 with (refine wpList_store_row rfl 92 (.tmp 10) (.tmp 15) rfl w1.heap.size (byteCells O 64).toArray rfl rfl 92 _ (Whole.new _ _ _) (by rw [HZ64.out]; kernel_rfl) (by rw [HZ64.out]; rfl) (bytes_one _ _) ?_)
  try simp only [Act.put]
  refine cut_world (fun W => Whole W (B + 1 + 1) 83 (byteCells (fun _ => 0) 16).toArray ∧ Whole W (B + 1 + 1 + 1) 23 (byteCells (fun _ => 0) 32).toArray ∧ Whole W w1.heap.size 92 (byteCells O 64).toArray ∧ Below B w W) ⟨?_, ?_, ?_, ?_⟩ ?_
  · exact (setRow_other _ _ _ _ (by omega)).trans (L3.out.alloc _)
  · exact (setRow_other _ _ _ _ (by omega)).trans (L4.out.alloc _)
  · exact setRow_heap _ _ _ _ _ _ (Whole.new _ _ _)
  · exact below_setRow (LB.out.alloc (by omega) _) (by omega) _
  rintro W2 ⟨k3, k4, k5, kb⟩
  have K3 := Lib.hid k3
  have K4 := Lib.hid k4
  have KB := Lib.hid kb
  have K4D := Lib.hid (show Whole W2.drew (B + 1 + 1 + 1) 23 (byteCells (fun _ => 0) 32).toArray from k4.drew)
  have HS := Lib.hid (rd_src (w := W2.drew) (b := w1.heap.size) (off := 0) (n := 32) (f := O) (fun i hi => k5.drew.bytes i (by omega)))
  have hG : B + 1 + 1 + 1 < w1.heap.size := by omega
  have hl2 := k5.lt
  clear k3 k4 k5 kb L3 L4 LB hs1 hl4
  generalize w1.heap.size = G at HS hG hl2 ⊢
  go_region_law (refine step_copy_grown rfl (.tmp 16) (.tmp 17) 38 38 rfl 5 rfl (by kernel_rfl) (B + 1 + 1 + 1) 0 32 32 ⟨G, 0, none⟩ 64 64 rfl rfl (byteCells (fun _ => 0) 32) 23 K4D.out (byteCells O 32) (by rw [byteCells_length]; rfl) HS.out (by rw [byteCells_length, byteCells_length]; omega) (bytes_each _ _) ?_; intro w3 hg3 hb3)
  have L4 := Lib.hid (show Whole w3 (B + 1 + 1 + 1) 23 (byteCells O 32).toArray from by
    have h := hg3.out
    rw [byteCells_splice (fun _ => 0) O O 32 0 32 (by omega) (fun i hi => by rw [if_pos ⟨by omega, by omega⟩, Nat.sub_zero])] at h
    exact h)
  have L3 := Lib.hid (whole_grown (w := w3) K3.out.drew hb3 (by omega))
  have LB := Lib.hid (below_grown (below_drewN KB.out 1) hb3 (by omega) (by show B ≤ W2.heap.size; omega))
  clear hg3 hb3 K3 K4 KB K4D HS hl2 hG
  have hwo : (no : Int) < 18446744073709551616 := by omega
  have hwt : (nt : Int) < 18446744073709551616 := by omega
  go_wp2_with fail
  refine (put64_any no (by omega) _).mono ?_
  rintro e w4 ⟨rfl, hb4⟩
  have M3 := Lib.hid (L3.out.below hb4 L3.out.lt)
  have M4 := Lib.hid (L4.out.below hb4 L4.out.lt)
  have MB := Lib.hid (LB.out.trans (hb4.mono (by have := L4.out.lt; omega)))
  clear hb4 L3 L4 LB
  go_wp2_with fail
  refine (put64_any nt (by omega) _).mono ?_
  rintro e w5 ⟨rfl, hb5⟩
  have N3 := Lib.hid (M3.out.below hb5 M3.out.lt)
  have N4 := Lib.hid (M4.out.below hb5 M4.out.lt)
  have NB := Lib.hid (MB.out.trans (hb5.mono (by have := M4.out.lt; omega)))
  have hl5 := N4.out.lt
  clear hb5 M3 M4 MB
  have HBA := Lib.hid byteAt_lt
  have HLL := Lib.hid (lens_lt no nt)
  obtain ⟨M, hM⟩ : ∃ M, markF key nonce ft nt fo no = M := ⟨_, rfl⟩
  have HM := Lib.hid (show ∀ AL, tag (macs (rk O) (bothP Ao no co fo At nt ct ft AL (lens no nt)) 3) O = M from fun AL => by
    rw [macs_three, ← hM]
    unfold markF markW
    rw [HO.out]
    rfl)
  have HMM := Lib.hid hM
  clear hM
  go_upto_region 5 with (first | (refine wpList_store_row rfl 86 (.tmp 11) (.tmp 22) rfl w5.heap.size (byteCells (byteAt no) 8).toArray rfl rfl 86 _ ((Whole.new _ _ _).alloc _) (by rw [HZ8.out]; kernel_rfl) (by rw [HZ8.out]; rfl) (bytes_one _ _) ?_) | (refine wpList_store_row rfl 86 (.tmp 12) (.tmp 26) rfl (w5.heap.size + 1) (byteCells (byteAt nt) 8).toArray rfl rfl 86 _ ((setRow_other _ _ _ _ (by omega)).trans (whole_new _ _ (by simp))) (by rw [HZ8.out]; kernel_rfl) (by rw [HZ8.out]; rfl) (bytes_one _ _) ?_))
  try simp only [Act.put]
  refine cut_world (fun W => Whole W (B + 1 + 1) 83 (byteCells (fun _ => 0) 16).toArray ∧ Whole W (B + 1 + 1 + 1) 23 (byteCells O 32).toArray ∧ Whole W w5.heap.size 86 (byteCells (byteAt no) 8).toArray ∧ Whole W (w5.heap.size + 1) 86 (byteCells (byteAt nt) 8).toArray ∧ Below B w W) ⟨?_, ?_, ?_, ?_, ?_⟩ ?_
  · exact (setRow_other _ _ _ _ (by omega)).trans ((setRow_other _ _ _ _ (by omega)).trans ((N3.out.alloc _).alloc _))
  · exact (setRow_other _ _ _ _ (by omega)).trans ((setRow_other _ _ _ _ (by omega)).trans ((N4.out.alloc _).alloc _))
  · exact (setRow_other _ _ _ _ (by omega)).trans (setRow_heap _ _ _ _ _ _ ((Whole.new _ _ _).alloc _))
  · exact setRow_heap _ _ _ _ _ _ ((setRow_other _ _ _ _ (by omega)).trans (whole_new _ _ (by simp)))
  · exact below_setRow (below_setRow ((NB.out.alloc (by omega) _).alloc (by simp; omega) _) (by omega) _) (by omega) _
  rintro W6 ⟨k3, k4, kf, kg, kb⟩
  have K3 := Lib.hid k3
  have K4 := Lib.hid k4
  have KF := Lib.hid kf
  have KG := Lib.hid kg
  have KB := Lib.hid kb
  clear k3 k4 kf kg kb N3 N4 NB
  generalize w5.heap.size = F at KF KG hl5 ⊢
  refine region_drew (SM w B O) (by kernel_rfl) ⟨K4.out.drew, below_drewN KB.out 1⟩ ?_
  intro hS
  clear K4 KB
  refine take 0 _ rfl (by kernel_rfl) (by kernel_rfl) (by kernel_rfl) (fun _ _ _ h => h) (by rfl) hS (fun w hw => run_load_op 23 (.tmp 9) rfl ((B+1+1+1)) rfl (hw.1) rfl rfl (by rw [List.size_toArray, byteCells_length]; kernel_rfl)) ?_
  try simp only [Act.put, List.setIfInBounds_toArray, List.set_cons_zero, List.set_cons_succ]
  refine take 1 _ rfl (by kernel_rfl) (by kernel_rfl) (by kernel_rfl) (fun _ _ _ h => h) (by rfl) hS (by intro w _; go_simp; with_reducible rfl) ?_
  try simp only [Act.put, List.setIfInBounds_toArray, List.set_cons_zero, List.set_cons_succ]
  refine take 2 _ rfl (by kernel_rfl) (by kernel_rfl) (by kernel_rfl) (fun _ _ _ h => h) (by rfl) hS (by intro w _; go_simp; with_reducible rfl) ?_
  try simp only [Act.put, List.setIfInBounds_toArray, List.set_cons_zero, List.set_cons_succ]
  refine take 3 _ rfl (by kernel_rfl) (by kernel_rfl) (by kernel_rfl) (fun _ _ _ h => h) (by rfl) hS (by intro w _; go_simp; with_reducible rfl) ?_
  try simp only [Act.put, List.setIfInBounds_toArray, List.set_cons_zero, List.set_cons_succ]
  refine take 4 _ rfl (by kernel_rfl) (by kernel_rfl) (by kernel_rfl) (fun _ _ _ h => h) (by rfl) hS (by intro w _; go_simp; with_reducible rfl) ?_
  try simp only [Act.put, List.setIfInBounds_toArray, List.set_cons_zero, List.set_cons_succ]
  refine alone 5 rfl (by kernel_rfl) (by rfl) ?_
  intro K hK
  go_simp
  refine hK.out _ _ ⟨hS.1.alloc _, hS.2.alloc (by have := hS.1.lt; omega) _⟩ ?_
  clear hK K
  try simp only [Act.put, List.setIfInBounds_toArray, List.set_cons_zero, List.set_cons_succ]
  refine cut_any (fun X => SM w B O X ∧ Whole X (B + 1 + 1) 83 (byteCells (fun _ => 0) 16).toArray ∧ Whole X F 86 (byteCells (byteAt no) 8).toArray ∧ Whole X (F + 1) 86 (byteCells (byteAt nt) 8).toArray ∧ Whole X W6.heap.size 38 #[.slice (some ⟨F, 0, none⟩) 8 8, .slice (some ⟨F + 1, 0, none⟩) 8 8]) ⟨⟨hS.1.alloc _, hS.2.alloc (by have := hS.1.lt; omega) _⟩, K3.out.drew.alloc _, KF.out.drew.alloc _, KG.out.drew.alloc _, Whole.new _ _ _⟩ ?_
  rintro v1 ⟨hS1, p3, pf, pg, pr⟩
  clear hS
  have hS := hS1
  clear hS1
  have hlr := pr.lt
  have hin : (lensP F no nt).In v1 (some ⟨W6.heap.size, 0, none⟩) 2 := lens_in pf pg (HBA.out no) (HBA.out nt) pr
  have P3 := Lib.hid p3
  have HIN := Lib.hid hin
  clear p3 pf pg pr hin K3 KF KG
  generalize W6.heap.size = g1 at HIN hlr ⊢
  refine alone 6 rfl (by kernel_rfl) (by rfl) ?_
  intro K hK
  go_simp
  refine (join_any (some ⟨g1, 0, none⟩) 2 2 (lensP F no nt) (by omega) _ HIN.out (fun i _ e => by cases e)).mono ?_
  rintro e v2 ⟨AL, cl, rfl, ol, hb⟩
  rw [show joN (lensP F no nt) 2 = 16 from rfl] at ol ⊢
  have RL := Lib.hid ((Own.congr (g := lens no nt) ol (fun i _ => lens_jo F no nt i)).rd)
  have Q3 := Lib.hid (P3.out.below hb P3.out.lt)
  clear ol P3 HIN
  go_simp
  replace hS := sm_below hS hb
  refine hK.out _ _ hS ?_
  clear hK hb K
  try simp only [Act.put, List.setIfInBounds_toArray, List.set_cons_zero, List.set_cons_succ]
  generalize lens no nt = LL at RL HLL HM
  refine alone 7 rfl (by kernel_rfl) (by rfl) ?_
  intro K hK
  go_simp
  refine hK.out _ _ ⟨hS.1.alloc _, hS.2.alloc (by have := hS.1.lt; omega) _⟩ ?_
  clear hK K
  try simp only [Act.put, List.setIfInBounds_toArray, List.set_cons_zero, List.set_cons_succ]
  refine cut_any (fun X => SM w B O X ∧ Whole X (B + 1 + 1) 83 (byteCells (fun _ => 0) 16).toArray ∧ Rd X AL 16 LL ∧ Whole X v2.heap.size 38 #[.slice Ao no co, .slice At nt ct, .slice AL 16 16]) ⟨⟨hS.1.alloc _, hS.2.alloc (by have := hS.1.lt; omega) _⟩, Q3.out.alloc _, RL.out.below (below_alloc (Below.refl _ _) _) (Nat.le_refl _), Whole.new _ _ _⟩ ?_
  rintro v3 ⟨hS1, p3, rl, pr⟩
  clear hS
  have hS := hS1
  clear hS1
  have hin : (bothP Ao no co fo At nt ct ft AL LL).In v3 (some ⟨v2.heap.size, 0, none⟩) 3 := both_in HFO.out HFT.out HLL.out (by omega) (by omega) (HRO.out.below hS.2 (by rw [HB.out]; exact Nat.le_refl _)) (HRT.out.below hS.2 (by rw [HB.out]; exact Nat.le_refl _)) rl hco hct pr
  have P3 := Lib.hid p3
  have HIN := Lib.hid hin
  clear p3 rl pr hin RL Q3
  generalize v2.heap.size = g2 at HIN ⊢
  refine alone 8 rfl (by kernel_rfl) (by rfl) ?_
  intro K hK
  go_simp
  refine (both_any O HOB.out (some ⟨g2, 0, none⟩) 3 3 (bothP Ao no co fo At nt ct ft AL LL) (by omega) _ HIN.out).mono ?_
  rintro e v4 ⟨rfl, hb⟩
  rw [HM.out AL]
  have Q3 := Lib.hid (P3.out.below hb P3.out.lt)
  clear P3 HIN
  go_simp
  replace hS := sm_below hS hb
  refine hK.out _ _ hS ?_
  clear hK hb K
  try simp only [Act.put, List.setIfInBounds_toArray, List.set_cons_zero, List.set_cons_succ]
  refine alone 9 rfl (by kernel_rfl) (by rfl) ?_
  intro K hK
  refine wp_store_row 83 (.tmp 8) (.tmp 35) rfl (B + 1 + 1) (byteCells M 16).toArray (by rfl) (by rfl) 83 _ Q3.out (by rw [HZ16.out]; kernel_rfl) (by rw [HZ16.out, HZ16.out]) (bytes_one _ _) ?_
  have hS2 := sm_set (g := B + 1 + 1) hS (by omega) (by omega) (byteCells M 16).toArray
  refine hK.out _ _ hS2 ?_
  clear hK K hS
  have hS := hS2
  clear hS2
  try simp only [Act.put]
  refine region_end (by kernel_rfl) ?_
  go_wp2_with fail
  have hret : Whole (v4.setRow (B + 1 + 1) (byteCells M 16).toArray) (B + 1 + 1) 83 (byteCells M 16).toArray := setRow_heap _ _ _ _ _ _ Q3.out
  refine bodyPost_ret (results_cell_row rfl _ _ (B + 1 + 1) 83 _ (0, 0) _ rfl hret rfl rfl (by rw [HZ16.out]; kernel_rfl)) rfl ?_
  rw [HMM.out, HB.out]
  exact ⟨rfl, hS.2⟩
end Aead
end Go.Proofs.Ytdhjgenijieeaaa
namespace Go.Proofs.Ytdhjgenijieeaaa
namespace Aead
open Go.ChangeShapes Go.WideShapes Go.ChangeAt Go.RowKit
open Num Mem Words State PolyN Chacha Quiet Poly Ref
/-- the box of a text -/
def boxW (X M : Nat → Nat) (n i : Nat) : Nat := if i < n then X i else M (i - n)
def boxF (key nonce : Nat → Nat) (f : Nat → Nat) (n : Nat) (fo : Nat → Nat) (no : Nat) : Nat → Nat :=
  boxW (xo key nonce 1 f) (markF key nonce (xo key nonce 1 f) n fo no) n
theorem xo_lt (key nonce : Nat → Nat) (ctr : Nat) {f : Nat → Nat} (hf : ∀ i, f i < 256) (j : Nat) : xo key nonce ctr f j < 256 := Nat.xor_lt_two_pow (n := 8) (hf j) (blk_lt _ _ _ _)
theorem tag_lt (a : Nat) (k : Nat → Nat) (i : Nat) : tag a k i < 256 := by
  unfold tag
  exact byteAt_lt _ _
theorem markF_lt (key nonce ft : Nat → Nat) (nt : Nat) (fo : Nat → Nat) (no i : Nat) : markF key nonce ft nt fo no i < 256 := tag_lt _ _ i
def boxP (g G n : Nat) (X M : Nat → Nat) : Parts := { A := fun i => if i = 0 then some ⟨g, 0, none⟩ else some ⟨G, 0, none⟩, n := fun i => if i = 0 then n else 16, c := fun i => if i = 0 then n else 16, f := fun i => if i = 0 then X else M }
theorem box_jn (g G n : Nat) (X M : Nat → Nat) : joN (boxP g G n X M) 2 = n + 16 := by
  show 0 + n + 16 = n + 16
  omega
theorem box_jo (g G n : Nat) (X M : Nat → Nat) (i : Nat) : joF (boxP g G n X M) 2 i = boxW X M n i := by
  have h : joF (boxP g G n X M) 2 i = if i < joN (boxP g G n X M) 1 then (if i < joN (boxP g G n X M) 0 then joF (boxP g G n X M) 0 i else X (i - 0)) else M (i - joN (boxP g G n X M) 1) := rfl
  rw [h, show joN (boxP g G n X M) 1 = n from Nat.zero_add n, show joN (boxP g G n X M) 0 = 0 from rfl, if_neg (by omega : ¬ i < 0), Nat.sub_zero]
  rfl
theorem box_in {v : World} {g G P n : Nat} {X M : Nat → Nat} (hf : Whole v g 5 (byteCells X n).toArray) (hg : Whole v G 83 (byteCells M 16).toArray) (ha : ∀ i, X i < 256) (hb : ∀ i, M i < 256) (hn : n ≤ 1000000)
    (hr : Whole v P 38 #[.slice (some ⟨g, 0, none⟩) n n, .slice (some ⟨G, 0, none⟩) 16 16]) : (boxP g G n X M).In v (some ⟨P, 0, none⟩) 2 := by
  refine ⟨fun i hi => ?_, fun i j => ?_, .inr ⟨P, 0, rfl, hr.lt, fun i hi => ?_⟩⟩
  · rcases i with _ | _ | i
    · exact ⟨.inr ⟨g, 0, rfl, hf.lt, fun j hj => hf.bytes j hj⟩, Nat.le_refl _, hn⟩
    · exact ⟨.inr ⟨G, 0, rfl, hg.lt, fun j hj => hg.bytes j hj⟩, Nat.le_refl 16, by show 16 ≤ 1000000; omega⟩
    · omega
  · show (if i = 0 then X else M) j < 256
    split
    · exact ha j
    · exact hb j
  · rw [Nat.zero_add, hr.cell]
    rcases i with _ | _ | i
    · rfl
    · rfl
    · omega
set_option maxRecDepth 100000 in
theorem seal_long (key nonce : Nat → Nat) (A Ao : Option Addr) (n c no co : Nat) (h : 65536 < n ∨ 65536 < no) (w : World) :
    Calls Try.prog 25 #[.agg (byteCells key 32).toArray, .agg (byteCells nonce 12).toArray, .slice A n c, .slice Ao no co] w fun e w' => e = .returned (.tuple #[.slice none 0 0, .int .i64 2]) ∧ Below w.heap.size w w' := by
  rw [byteCells_lit32, byteCells_lit12]
  go_enter Try.func25, Try.ntmps25
  go_wp2_with fail
  refine (tooLong_any A Ao n c no co true (by simpa using h) _).mono ?_
  rintro e w1 ⟨rfl, rfl⟩
  go_wp2_with fail
  go_ret2
  exact ⟨rfl, below_alloc (below_alloc (Below.refl _ _) _) _⟩
set_option maxRecDepth 100000 in
set_option maxHeartbeats 1000000 in
theorem seal_ok (key nonce : Nat → Nat) (hk : ∀ i, key i < 256) (hn : ∀ i, nonce i < 256) (A : Option Addr) (n c : Nat) (f : Nat → Nat) (hf : ∀ i, f i < 256) (Ao : Option Addr) (no co : Nat) (fo : Nat → Nat) (hfo : ∀ i, fo i < 256)
    (hco : no ≤ co) (hnt : n ≤ 65536) (hno : no ≤ 65536) (w : World) (hr : Rd w A n f) (hro : Rd w Ao no fo) :
    Calls Try.prog 25 #[.agg (byteCells key 32).toArray, .agg (byteCells nonce 12).toArray, .slice A n c, .slice Ao no co] w fun e w' => ∃ A' c', e = .returned (.tuple #[.slice A' (n + 16) (n + 16), .int .i64 0]) ∧ Own w' w.heap.size 5 A' (n + 16) c' (boxF key nonce f n fo no) ∧ Below w.heap.size w w' := by
  have HK := Lib.hid hk
  have HN := Lib.hid hn
  have HF := Lib.hid hf
  have HFO := Lib.hid hfo
  have HR := Lib.hid hr
  have HRO := Lib.hid hro
  have HZ16 := Lib.hid (show ∀ f, (byteCells f 16).toArray.size = 16 from fun f => by rw [List.size_toArray, byteCells_length])
  clear hk hn hf hfo hr hro
  rw [byteCells_lit32, byteCells_lit12]
  go_enter Try.func25, Try.ntmps25
  go_upto_region 1 with fail
  refine cut_world (fun W => Whole W w.heap.size 24 (byteCells key 32).toArray ∧ Whole W (w.heap.size + 1) 76 (byteCells nonce 12).toArray ∧ Below w.heap.size w W) ⟨?_, ?_, ?_⟩ ?_
  · rw [byteCells_lit32]
    exact (whole_new _ _ rfl).alloc _
  · rw [byteCells_lit12]
    exact whole_new _ _ (by simp)
  · exact below_alloc (below_alloc (Below.refl _ _) _) _
  rintro W ⟨k1, k2, kb⟩
  have K1 := Lib.hid k1
  have K2 := Lib.hid k2
  have KB := Lib.hid kb
  have hl2 := k2.lt
  clear k1 k2 kb
  generalize hB : w.heap.size = B at K1 K2 KB hl2 ⊢
  have HB := Lib.hid hB
  clear hB
  go_wp2_with fail
  refine (tooLong_any A Ao n c no co false ⟨fun h => (by cases h), fun h => (by rcases h with h | h <;> omega)⟩ _).mono ?_
  rintro e w1 ⟨rfl, rfl⟩
  go_wp2_with (first | (refine wpList_load_row rfl 24 (.tmp 4) rfl B rfl 24 (byteCells key 32).toArray (0, 0) _ K1.out rfl rfl (by kernel_rfl) ?_) | (refine wpList_load_row rfl 76 (.tmp 5) rfl (B + 1) rfl 76 (byteCells nonce 12).toArray (0, 0) _ K2.out rfl rfl (by kernel_rfl) ?_))
  refine (xor_ok key nonce HK.out HN.out 1 (by omega) A n c f HF.out hnt (by omega) _ (HR.out.below KB.out (by rw [HB.out]; exact Nat.le_refl _))).mono ?_
  rintro e w2 ⟨g, rfl, hg, hb⟩
  have L1 := Lib.hid (K1.out.below hb K1.out.lt)
  have L2 := Lib.hid (K2.out.below hb K2.out.lt)
  have LB := Lib.hid (KB.out.trans (hb.mono (by omega)))
  have hs2 := hb.size
  have HX := Lib.hid (xo_lt key nonce 1 HF.out)
  obtain ⟨X, hX⟩ : ∃ X, xo key nonce 1 f = X := ⟨_, rfl⟩
  rw [hX] at hg HX
  obtain ⟨T, hT⟩ : ∃ T, boxF key nonce f n fo no = T := ⟨_, rfl⟩
  have HMX := Lib.hid (markF_lt key nonce X n fo no)
  have HBOX := Lib.hid (show ∀ i, boxW X (markF key nonce X n fo no) n i = T i from fun i => by rw [← hT, ← hX]; rfl)
  have HT := Lib.hid hT
  have LG := Lib.hid hg
  clear hb hg hX hT K1 K2 KB
  go_wp2_with (first | (refine wpList_load_row rfl 24 (.tmp 4) rfl B rfl 24 (byteCells key 32).toArray (0, 0) _ L1.out rfl rfl (by kernel_rfl) ?_) | (refine wpList_load_row rfl 76 (.tmp 5) rfl (B + 1) rfl 76 (byteCells nonce 12).toArray (0, 0) _ L2.out rfl rfl (by kernel_rfl) ?_))
  refine (mark_any key nonce HK.out HN.out (some ⟨g, 0, none⟩) n n X HX.out Ao no co fo HFO.out (Nat.le_refl _) hco hnt hno _ (.inr ⟨g, 0, rfl, LG.out.lt, fun j hj => LG.out.bytes j hj⟩) (HRO.out.below LB.out (by rw [HB.out]; exact Nat.le_refl _))).mono ?_
  rintro e w3 ⟨rfl, hb⟩
  have MG := Lib.hid (LG.out.below hb LG.out.lt)
  have MB := Lib.hid (LB.out.trans (hb.mono (by omega)))
  have hs3 := hb.size
  clear hb LG L1 L2 LB
  generalize markF key nonce X n fo no = M at HMX HBOX ⊢
  go_upto_region 7 with (refine wpList_store_row rfl 83 (.tmp 12) (.tmp 30) rfl w3.heap.size (byteCells M 16).toArray rfl rfl 83 _ (Whole.new _ _ _) (by rw [HZ16.out]; kernel_rfl) (by rw [HZ16.out]; rfl) (bytes_one _ _) ?_)
  try simp only [Act.put]
  refine cut_world (fun W => Whole W g 5 (byteCells X n).toArray ∧ Whole W w3.heap.size 83 (byteCells M 16).toArray ∧ Below B w W) ⟨?_, ?_, ?_⟩ ?_
  · exact (setRow_other _ _ _ _ (by have := MG.out.lt; omega)).trans (MG.out.alloc _)
  · exact setRow_heap _ _ _ _ _ _ (Whole.new _ _ _)
  · exact below_setRow (MB.out.alloc (by omega) _) (by omega) _
  rintro W4 ⟨kg, km, kb⟩
  have KG := Lib.hid kg
  have KM := Lib.hid km
  have KB := Lib.hid kb
  have hl4 := km.lt
  clear kg km kb MG MB
  generalize w3.heap.size = G at KM hl4 hs3 ⊢
  go_wp2_with fail
  refine (join_any (some ⟨W4.heap.size, 0, none⟩) 2 2 (boxP g G n X M) (by omega) _ (box_in (KG.out.alloc _) (KM.out.alloc _) HX.out HMX.out (by omega) (Whole.new _ _ _)) (fun i hi e => by rcases i with _ | _ | i <;> first | (cases e; done) | omega)).mono ?_
  rintro e w5 ⟨A', c', rfl, o5, hb5⟩
  rw [box_jn] at o5 ⊢
  have O5 := Lib.hid (Own.more (Own.congr (g := T) o5 (fun i _ => (box_jo g G n X M i).trans (HBOX.out i))) (show B ≤ _ from by simp; omega))
  have L5 := Lib.hid ((KB.out.alloc (by omega) (.cells #[.slice (some ⟨g, 0, none⟩) n n, .slice (some ⟨G, 0, none⟩) 16 16] 38)).trans (hb5.mono (by simp; omega)))
  clear o5 hb5 KG KM KB
  go_wp2_with fail
  go_ret2
  rw [HT.out, HB.out]
  exact ⟨A', c', rfl, O5.out, L5.out⟩
end Aead
end Go.Proofs.Ytdhjgenijieeaaa
namespace Go.Proofs.Ytdhjgenijieeaaa
namespace Aead
open Go.ChangeShapes Go.WideShapes Go.ChangeAt Go.RowKit
open Num Mem Words State PolyN Chacha Quiet Poly Ref
set_option maxRecDepth 100000 in
theorem open_short (key nonce : Nat → Nat) (A Ao : Option Addr) (n c no co : Nat) (h : n < 16) (w : World) :
    Calls Try.prog 28 #[.agg (byteCells key 32).toArray, .agg (byteCells nonce 12).toArray, .slice A n c, .slice Ao no co] w fun e w' => e = .returned (.tuple #[.slice none 0 0, .int .i64 10]) ∧ Below w.heap.size w w' := by
  rw [byteCells_lit32, byteCells_lit12]
  go_enter Try.func28, Try.ntmps28
  go_wp2_with fail
  go_ret2
  exact ⟨rfl, below_alloc (below_alloc (Below.refl _ _) _) _⟩
set_option maxRecDepth 100000 in
theorem open_long (key nonce : Nat → Nat) (b off n c no co : Nat) (Ao : Option Addr) (h0 : 16 ≤ n) (hc : n ≤ c) (hc2 : c ≤ 9223372036854775807) (h : 65552 < n ∨ 65536 < no) (w : World) :
    Calls Try.prog 28 #[.agg (byteCells key 32).toArray, .agg (byteCells nonce 12).toArray, .slice (some ⟨b, off, none⟩) n c, .slice Ao no co] w fun e w' => e = .returned (.tuple #[.slice none 0 0, .int .i64 2]) ∧ Below w.heap.size w w' := by
  obtain ⟨m, hm⟩ : ∃ m, n = m + 16 := ⟨n - 16, by omega⟩
  have hmn : (m : Int) ≤ (n : Int) := by omega
  have hmc : (m : Int) ≤ (c : Int) := by omega
  rw [byteCells_lit32, byteCells_lit12]
  go_enter Try.func28, Try.ntmps28
  go_upto_region 4 with fail
  go_wp2_with fail
  go_quiet (fail)
  go_wp2_with fail
  refine (tooLong_any (some ⟨b, off, none⟩) Ao m m no co true (by simp; omega) _).mono ?_
  rintro e w1 ⟨rfl, rfl⟩
  go_wp2_with fail
  go_ret2
  exact ⟨rfl, below_drewN (below_alloc (below_alloc (Below.refl _ _) _) _) _⟩
/-- what Open pays where both texts are short enough -/
def OpenPost (w : World) (r : Bool) (m : Nat) (T : Nat → Nat) (e : Ending) (w' : World) : Prop :=
  (if r = true then ∃ g, e = .returned (.tuple #[.slice (some ⟨g, 0, none⟩) m m, .int .i64 0]) ∧ Whole w' g 5 (byteCells T m).toArray else e = .returned (.tuple #[.slice none 0 0, .int .i64 20])) ∧ Below w.heap.size w w'
set_option maxRecDepth 100000 in
set_option maxHeartbeats 1000000 in
theorem open_any (key nonce : Nat → Nat) (hk : ∀ i, key i < 256) (hn : ∀ i, nonce i < 256) (A : Option Addr) (n m c : Nat) (f : Nat → Nat) (hf : ∀ i, f i < 256) (Ao : Option Addr) (no co : Nat) (fo : Nat → Nat) (hfo : ∀ i, fo i < 256)
    (hm : n = m + 16) (hc : n ≤ c) (_hc2 : c ≤ 9223372036854775807) (hco : no ≤ co) (hnt : m ≤ 65536) (hno : no ≤ 65536) (r : Bool) (hrr : r = true ↔ ∀ i, i < 16 → markF key nonce f m fo no i = f (m + i)) (w : World) (hr : Rd w A n f) (hro : Rd w Ao no fo) :
    Calls Try.prog 28 #[.agg (byteCells key 32).toArray, .agg (byteCells nonce 12).toArray, .slice A n c, .slice Ao no co] w (OpenPost w r m (xo key nonce 1 f)) := by
  obtain ⟨b, off, rfl, hb0, hcell⟩ : ∃ b off, A = some ⟨b, off, none⟩ ∧ b < w.heap.size ∧ ∀ i, i < n → w.cell? ⟨b, off + i, none⟩ = some (.int .u8 (f i : Nat)) := by
    rcases hr with h | h
    · omega
    · exact h
  have HK := Lib.hid hk
  have HN := Lib.hid hn
  have HF := Lib.hid hf
  have HFO := Lib.hid hfo
  have HRT := Lib.hid (show Rd w (some ⟨b, off, none⟩) m f from .inr ⟨b, off, rfl, hb0, fun i hi => hcell i (by omega)⟩)
  have HRM := Lib.hid (show Rd w (some ⟨b, off + m, none⟩) 16 (fun i => f (m + i)) from .inr ⟨b, off + m, rfl, hb0, fun i hi => by rw [Nat.add_assoc]; exact hcell (m + i) (by omega)⟩)
  have HRO := Lib.hid hro
  have HRR := Lib.hid hrr
  have HZ16 := Lib.hid (show ∀ f, (byteCells f 16).toArray.size = 16 from fun f => by rw [List.size_toArray, byteCells_length])
  have hmn : (m : Int) ≤ (n : Int) := by omega
  have hmc : (m : Int) ≤ (c : Int) := by omega
  clear hk hn hf hfo hr hro hrr hcell hb0
  rw [byteCells_lit32, byteCells_lit12]
  go_enter Try.func28, Try.ntmps28
  go_upto_region 1 with fail
  refine cut_world (fun W => Whole W w.heap.size 24 (byteCells key 32).toArray ∧ Whole W (w.heap.size + 1) 76 (byteCells nonce 12).toArray ∧ Below w.heap.size w W) ⟨?_, ?_, ?_⟩ ?_
  · rw [byteCells_lit32]
    exact (whole_new _ _ rfl).alloc _
  · rw [byteCells_lit12]
    exact whole_new _ _ (by simp)
  · exact below_alloc (below_alloc (Below.refl _ _) _) _
  rintro W ⟨k1, k2, kb⟩
  have K1 := Lib.hid k1
  have K2 := Lib.hid k2
  have KB := Lib.hid kb
  have hl2 := k2.lt
  clear k1 k2 kb
  generalize hB : w.heap.size = B at K1 K2 KB hl2 ⊢
  have HB := Lib.hid hB
  clear hB
  go_upto_region 4 with fail
  go_wp2_with fail
  go_quiet (fail)
  go_wp2_with fail
  refine (tooLong_any (some ⟨b, off, none⟩) Ao m m no co false ⟨fun h => (by cases h), fun h => (by rcases h with h | h <;> omega)⟩ _).mono ?_
  rintro e w1 ⟨rfl, rfl⟩
  go_upto_region 7 with fail
  refine cut_world (fun X => Whole X B 24 (byteCells key 32).toArray ∧ Whole X (B + 1) 76 (byteCells nonce 12).toArray ∧ Below B w X ∧ B + 1 < X.heap.size) ⟨K1.out.drewN _, K2.out.drewN _, below_drewN KB.out _, hl2⟩ ?_
  rintro W2 ⟨k1, k2, kb, hl2'⟩
  have L1 := Lib.hid k1
  have L2 := Lib.hid k2
  have LB := Lib.hid kb
  clear k1 k2 kb K1 K2 KB hl2
  go_wp2_with (first | (refine wpList_load_row rfl 24 (.tmp 4) rfl B rfl 24 (byteCells key 32).toArray (0, 0) _ L1.out rfl rfl (by kernel_rfl) ?_) | (refine wpList_load_row rfl 76 (.tmp 5) rfl (B + 1) rfl 76 (byteCells nonce 12).toArray (0, 0) _ L2.out rfl rfl (by kernel_rfl) ?_))
  refine (mark_any key nonce HK.out HN.out (some ⟨b, off, none⟩) m m f HF.out Ao no co fo HFO.out (Nat.le_refl _) hco hnt hno _ (HRT.out.below LB.out (by rw [HB.out]; exact Nat.le_refl _)) (HRO.out.below LB.out (by rw [HB.out]; exact Nat.le_refl _))).mono ?_
  rintro e w3 ⟨rfl, hb⟩
  have M1 := Lib.hid (L1.out.below hb L1.out.lt)
  have M2 := Lib.hid (L2.out.below hb L2.out.lt)
  have MB := Lib.hid (LB.out.trans (hb.mono (by omega)))
  have hs3 := hb.size
  clear hb L1 L2 LB
  have HMX := Lib.hid (markF_lt key nonce f m fo no)
  generalize markF key nonce f m fo no = M at HMX HRR ⊢
  go_upto_region 8 with (refine wpList_store_row rfl 83 (.tmp 13) (.tmp 34) rfl w3.heap.size (byteCells M 16).toArray rfl rfl 83 _ (Whole.new _ _ _) (by rw [HZ16.out]; kernel_rfl) (by rw [HZ16.out]; rfl) (bytes_one _ _) ?_)
  try simp only [Act.put]
  refine cut_world (fun W => Whole W B 24 (byteCells key 32).toArray ∧ Whole W (B + 1) 76 (byteCells nonce 12).toArray ∧ Whole W w3.heap.size 83 (byteCells M 16).toArray ∧ Below B w W) ⟨?_, ?_, ?_, ?_⟩ ?_
  · exact (setRow_other _ _ _ _ (by omega)).trans (M1.out.alloc _)
  · exact (setRow_other _ _ _ _ (by omega)).trans (M2.out.alloc _)
  · exact setRow_heap _ _ _ _ _ _ (Whole.new _ _ _)
  · exact below_setRow (MB.out.alloc (by omega) _) (by omega) _
  rintro W4 ⟨k1, k2, km, kb⟩
  have K1 := Lib.hid k1
  have K2 := Lib.hid k2
  have KM := Lib.hid km
  have KB := Lib.hid kb
  clear k1 k2 km kb M1 M2 MB
  generalize w3.heap.size = G at KM hs3 ⊢
  go_wp2_with fail
  refine (equal_any (some ⟨G, 0, none⟩) (some ⟨b, off + m, none⟩) 16 16 16 (c - m) M (fun i => f (m + i)) HMX.out (fun i => HF.out _) (by omega) _ (.inr ⟨G, 0, rfl, KM.out.lt, fun j hj => KM.out.bytes j hj⟩) (HRM.out.below KB.out (by rw [HB.out]; exact Nat.le_refl _)) r (by rw [HRR.out]; simp)).mono ?_
  rintro e w5 ⟨rfl, k, rfl⟩
  rcases r with _ | _
  · go_wp2_with fail
    go_ret2
    unfold OpenPost
    rw [if_neg (by decide), HB.out]
    exact ⟨rfl, below_drewN KB.out _⟩
  · go_wp2_with (first | (refine wpList_load_row rfl 24 (.tmp 4) rfl B rfl 24 (byteCells key 32).toArray (0, 0) _ (K1.out.drewN _) rfl rfl (by kernel_rfl) ?_) | (refine wpList_load_row rfl 76 (.tmp 5) rfl (B + 1) rfl 76 (byteCells nonce 12).toArray (0, 0) _ (K2.out.drewN _) rfl rfl (by kernel_rfl) ?_))
    refine (xor_ok key nonce HK.out HN.out 1 (by omega) (some ⟨b, off, none⟩) m m f HF.out hnt (by omega) _ (HRT.out.below (below_drewN KB.out _) (by rw [HB.out]; exact Nat.le_refl _))).mono ?_
    rintro e w6 ⟨g, rfl, hg, hb⟩
    have HG := Lib.hid hg
    have LB := Lib.hid ((below_drewN KB.out k).trans (hb.mono (by show B ≤ W4.heap.size; have := KM.out.lt; omega)))
    clear hg hb
    obtain ⟨X, hX⟩ : ∃ X, xo key nonce 1 f = X := ⟨_, rfl⟩
    rw [hX] at HG
    have HX := Lib.hid hX
    clear hX
    go_wp2_with fail
    go_ret2
    unfold OpenPost
    rw [if_pos rfl, HB.out, HX.out]
    exact ⟨⟨g, rfl, HG.out⟩, LB.out⟩
end Aead
end Go.Proofs.Ytdhjgenijieeaaa
namespace Go.Proofs.Ytdhjgenijieeaaa
namespace Aead
open Go.ChangeShapes Go.WideShapes Go.ChangeAt Go.RowKit
open Num Mem Words State PolyN Chacha Quiet Poly Ref
def sealE (n no : Nat) : Int := if n ≤ 65536 ∧ no ≤ 65536 then 0 else 2
def sealN (n no : Nat) : Nat := if n ≤ 65536 ∧ no ≤ 65536 then n + 16 else 0
def SealPost (w : World) (key nonce f : Nat → Nat) (n : Nat) (fo : Nat → Nat) (no : Nat) (e : Ending) (w' : World) : Prop :=
  ∃ A' c', e = .returned (.tuple #[.slice A' (sealN n no) (sealN n no), .int .i64 (sealE n no)]) ∧ Own w' w.heap.size 5 A' (sealN n no) c' (boxF key nonce f n fo no) ∧ Below w.heap.size w w'
theorem seal_all (key nonce : Nat → Nat) (hk : ∀ i, key i < 256) (hn : ∀ i, nonce i < 256) (A : Option Addr) (n c : Nat) (f : Nat → Nat) (hf : ∀ i, f i < 256) (Ao : Option Addr) (no co : Nat) (fo : Nat → Nat) (hfo : ∀ i, fo i < 256)
    (hco : no ≤ co) (w : World) (hr : Rd w A n f) (hro : Rd w Ao no fo) :
    Calls Try.prog 25 #[.agg (byteCells key 32).toArray, .agg (byteCells nonce 12).toArray, .slice A n c, .slice Ao no co] w (SealPost w key nonce f n fo no) := by
  by_cases h : n ≤ 65536 ∧ no ≤ 65536
  · refine (seal_ok key nonce hk hn A n c f hf Ao no co fo hfo hco h.1 h.2 w hr hro).mono ?_
    rintro e w' ⟨A', c', rfl, o, hb⟩
    refine ⟨A', c', ?_, ?_, hb⟩
    · rw [sealN, sealE, if_pos h, if_pos h]
    · rw [sealN, if_pos h]
      exact o
  · refine (seal_long key nonce A Ao n c no co (by omega) w).mono ?_
    rintro e w' ⟨rfl, hb⟩
    refine ⟨none, 0, ?_, ?_, hb⟩
    · rw [sealN, sealE, if_neg h, if_neg h]
    · rw [sealN, if_neg h]
      exact Own.nil _ _ _ _
def Fits16 (key nonce f : Nat → Nat) (n : Nat) (fo : Nat → Nat) (no : Nat) : Prop := ∀ i, i < 16 → markF key nonce f (n - 16) fo no i = f (n - 16 + i)
instance (key nonce f : Nat → Nat) (n : Nat) (fo : Nat → Nat) (no : Nat) : Decidable (Fits16 key nonce f n fo no) := by unfold Fits16; infer_instance
def openE (key nonce f : Nat → Nat) (n : Nat) (fo : Nat → Nat) (no : Nat) : Int := if n < 16 then 10 else if 65552 < n ∨ 65536 < no then 2 else if Fits16 key nonce f n fo no then 0 else 20
def openN (key nonce f : Nat → Nat) (n : Nat) (fo : Nat → Nat) (no : Nat) : Nat := if n < 16 then 0 else if 65552 < n ∨ 65536 < no then 0 else if Fits16 key nonce f n fo no then n - 16 else 0
def OpenedPost (w : World) (key nonce f : Nat → Nat) (n : Nat) (fo : Nat → Nat) (no : Nat) (e : Ending) (w' : World) : Prop :=
  ∃ A', e = .returned (.tuple #[.slice A' (openN key nonce f n fo no) (openN key nonce f n fo no), .int .i64 (openE key nonce f n fo no)]) ∧ Rd w' A' (openN key nonce f n fo no) (xo key nonce 1 f) ∧ (A' = none → openN key nonce f n fo no = 0) ∧ Below w.heap.size w w'
theorem open_all (key nonce : Nat → Nat) (hk : ∀ i, key i < 256) (hn : ∀ i, nonce i < 256) (A : Option Addr) (n c : Nat) (f : Nat → Nat) (hf : ∀ i, f i < 256) (Ao : Option Addr) (no co : Nat) (fo : Nat → Nat) (hfo : ∀ i, fo i < 256)
    (hc : n ≤ c) (hc2 : c ≤ 9223372036854775807) (hco : no ≤ co) (w : World) (hr : Rd w A n f) (hro : Rd w Ao no fo) :
    Calls Try.prog 28 #[.agg (byteCells key 32).toArray, .agg (byteCells nonce 12).toArray, .slice A n c, .slice Ao no co] w (OpenedPost w key nonce f n fo no) := by
  by_cases h1 : n < 16
  · refine (open_short key nonce A Ao n c no co h1 w).mono ?_
    rintro e w' ⟨rfl, hb⟩
    have e1 : openN key nonce f n fo no = 0 := by rw [openN, if_pos h1]
    refine ⟨none, ?_, ?_, fun _ => e1, hb⟩
    · rw [e1, openE, if_pos h1]
    · rw [e1]
      exact .inl rfl
  · by_cases h2 : 65552 < n ∨ 65536 < no
    · obtain ⟨b, off, rfl, _⟩ : ∃ b off, A = some ⟨b, off, none⟩ ∧ True := by
        rcases hr with h | ⟨b, off, h, _⟩
        · omega
        · exact ⟨b, off, h, trivial⟩
      refine (open_long key nonce b off n c no co Ao (by omega) hc hc2 h2 w).mono ?_
      rintro e w' ⟨rfl, hb⟩
      have e1 : openN key nonce f n fo no = 0 := by rw [openN, if_neg h1, if_pos h2]
      refine ⟨none, ?_, ?_, fun _ => e1, hb⟩
      · rw [e1, openE, if_neg h1, if_pos h2]
      · rw [e1]
        exact .inl rfl
    · refine (open_any key nonce hk hn A n (n - 16) c f hf Ao no co fo hfo (by omega) hc hc2 hco (by omega) (by omega) (decide (Fits16 key nonce f n fo no)) (by rw [decide_eq_true_eq]; rfl) w hr hro).mono ?_
      rintro e w' ⟨h, hb⟩
      by_cases h3 : Fits16 key nonce f n fo no
      · rw [if_pos (decide_eq_true h3)] at h
        obtain ⟨g, rfl, hg⟩ := h
        have e1 : openN key nonce f n fo no = n - 16 := by rw [openN, if_neg h1, if_neg h2, if_pos h3]
        refine ⟨some ⟨g, 0, none⟩, ?_, ?_, fun e => (by cases e), hb⟩
        · rw [e1, openE, if_neg h1, if_neg h2, if_pos h3]
        · rw [e1]
          exact .inr ⟨g, 0, rfl, hg.lt, fun j hj => hg.bytes j hj⟩
      · rw [if_neg (by rw [decide_eq_true_eq]; exact h3)] at h
        subst h
        have e1 : openN key nonce f n fo no = 0 := by rw [openN, if_neg h1, if_neg h2, if_neg h3]
        refine ⟨none, ?_, ?_, fun _ => e1, hb⟩
        · rw [e1, openE, if_neg h1, if_neg h2, if_neg h3]
        · rw [e1]
          exact .inl rfl
theorem own_drop {w : World} {B B' t k c : Nat} {A : Option Addr} {f : Nat → Nat} (h : Own w B t A k c f) (hB : B' ≤ B) : Own w B' t A k c f := Own.more h hB
end Aead
end Go.Proofs.Ytdhjgenijieeaaa
namespace Go.Proofs.Ytdhjgenijieeaaa
namespace Aead
open Go.ChangeShapes Go.WideShapes Go.ChangeAt Go.RowKit
open Num Mem Words State PolyN Chacha Quiet Poly Ref
theorem markF_congr (key nonce : Nat → Nat) {f g fo go : Nat → Nat} {nt no : Nat} (h : ∀ i, i < nt → f i = g i) (ho : ∀ i, i < no → fo i = go i) : markF key nonce f nt fo no = markF key nonce g nt go no := by
  unfold markF markW
  rw [mac_congr _ true no 0 fo go ho, mac_congr _ true nt _ f g h]
theorem box_text (key nonce f : Nat → Nat) (n : Nat) (fo : Nat → Nat) (no : Nat) {i : Nat} (h : i < n) : boxF key nonce f n fo no i = xo key nonce 1 f i := by
  unfold boxF boxW
  rw [if_pos h]
theorem box_mark (key nonce f : Nat → Nat) (n : Nat) (fo : Nat → Nat) (no i : Nat) : boxF key nonce f n fo no (n + i) = markF key nonce (xo key nonce 1 f) n fo no i := by
  unfold boxF boxW
  rw [if_neg (by omega), Nat.add_sub_cancel_left]
theorem boxF_lt (key nonce : Nat → Nat) {f : Nat → Nat} (hf : ∀ i, f i < 256) (n : Nat) (fo : Nat → Nat) (no i : Nat) : boxF key nonce f n fo no i < 256 := by
  unfold boxF boxW
  split
  · exact xo_lt key nonce 1 hf _
  · exact markF_lt _ _ _ _ _ _ _
theorem box_fits (key nonce f : Nat → Nat) (n : Nat) (fo : Nat → Nat) (no : Nat) : Fits16 key nonce (boxF key nonce f n fo no) (n + 16) fo no := by
  intro i _
  rw [Nat.add_sub_cancel, box_mark]
  exact congrFun (markF_congr key nonce (fun j hj => box_text key nonce f n fo no hj) (fun _ _ => rfl)) i
theorem open_sealE (key nonce f : Nat → Nat) (n : Nat) (fo : Nat → Nat) (no : Nat) (hn : n ≤ 65536) (hno : no ≤ 65536) : openE key nonce (boxF key nonce f n fo no) (n + 16) fo no = 0 := by
  rw [openE, if_neg (by omega), if_neg (by omega), if_pos (box_fits key nonce f n fo no)]
theorem open_sealN (key nonce f : Nat → Nat) (n : Nat) (fo : Nat → Nat) (no : Nat) (hn : n ≤ 65536) (hno : no ≤ 65536) : openN key nonce (boxF key nonce f n fo no) (n + 16) fo no = n := by
  rw [openN, if_neg (by omega), if_neg (by omega), if_pos (box_fits key nonce f n fo no), Nat.add_sub_cancel]
theorem box_back (key nonce f : Nat → Nat) (n : Nat) (fo : Nat → Nat) (no : Nat) {i : Nat} (h : i < n) : xo key nonce 1 (boxF key nonce f n fo no) i = f i := by
  have e : xo key nonce 1 (boxF key nonce f n fo no) i = xo key nonce 1 (xo key nonce 1 f) i := by
    unfold xo
    rw [box_text key nonce f n fo no h]
    rfl
  rw [e]
  unfold xo
  rw [Nat.xor_assoc, Nat.xor_self, Nat.xor_zero]
def twoN : Nat → Nat := fun i => if i = 0 then 2 else 0
def abT : Nat → Nat := fun i => if i = 0 then 97 else 98
def cT : Nat → Nat := fun _ => 99
theorem twoN_lt (i : Nat) : twoN i < 256 := by unfold twoN; split <;> omega
theorem abT_lt (i : Nat) : abT i < 256 := by unfold abT; split <;> omega
theorem cT_lt (i : Nat) : cT i < 256 := by unfold cT; omega
def fourth : Nat → Nat := fun i => if i = 4 then 1 else 0
theorem fourth_lt (i : Nat) : fourth i < 256 := by unfold fourth; split <;> omega
theorem fourth_is : ∀ i, i < 12 → bn (byteAt 1) i = fourth i := by decide +kernel
end Aead
end Go.Proofs.Ytdhjgenijieeaaa
