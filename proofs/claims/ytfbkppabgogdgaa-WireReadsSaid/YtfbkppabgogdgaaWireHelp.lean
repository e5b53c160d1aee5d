/- hello, answer, cookie and data of the law's package of wire: a message that was read is the one that the document reads. -/
import Derived.Test.YtfbkppabgogdgaaWireRest
import Derived.Test.YtfbkppabgogdgaaWireRefOk
import Derived.Test.YtfbkppabgogdgaaWireRefRead
import Derived.Test.YtfbkppabgogdgaaWireEq
import Derived.Test.YtfbkppabgogdgaaWireRHello
import Derived.Test.YtfbkppabgogdgaaWireRAnswer
import Derived.Test.YtfbkppabgogdgaaWireRCookie
import Derived.Test.YtfbkppabgogdgaaWireRData
import Derived.Test.YtfbkppabgogdgaaOps
namespace Go.Proofs.Ytfbkppabgogdgaa
namespace RefW
open Go.ChangeShapes Go.WideShapes Go.ChangeAt Go.RowKit
open Num Mem Words Ref Cuts Chacha Quiet Wire

theorem rd_from {w : World} {b off n : Nat} {f : Nat → Nat} (h : Rd w (some ⟨b, off, none⟩) n f) (k m : Nat) (hk : k + m ≤ n) (h0 : 0 < n) : Rd w (some ⟨b, off + k, none⟩) m (fun i => f (k + i)) := by
  rcases h with h | ⟨b', off', e, hlt, hc⟩
  · omega
  · injection e with e
    injection e with e1 e2
    subst e1
    subst e2
    exact .inr ⟨b, off + k, rfl, hlt, fun i hi => by rw [Nat.add_assoc]; exact hc (k + i) (by omega)⟩

theorem read_one (b off n c : Nat) (f : Nat → Nat) (hf : ∀ i, f i < 256) (hn : n ≤ 9223372036854775807) (hnc : n ≤ c) (hcm : c ≤ 9223372036854775807) (k : Nat) (h32 : 32 ≤ n) (hE : openE f n k = 0) (w : World) (hb : b < w.heap.size) (hr : Rd w (some ⟨b, off, none⟩) n f) :
    Calls Try.prog 63 #[.slice (some ⟨b, off, none⟩) n c, .int .i64 k, .int .i64 1] w fun e w' => ∃ h c', e = .returned (.tuple #[.slice (some ⟨h, 0, none⟩) 1 c', .slice (some ⟨b, off + 8, none⟩) (n - 8 : Nat) (c - 8 : Nat), .int .i64 0]) ∧ w'.cell? ⟨h, 0, none⟩ = some (.int .u32 (le f 4 4 : Nat)) ∧ Below w.heap.size w w' := by
  refine (read_ok b off n c f hf hn hnc hcm k 1 (by omega) (by omega) h32 hE w hb hr).mono ?_
  rintro e w' ⟨A', c', rfl, ho, hb⟩
  rcases ho.2 with ⟨_, h0⟩ | ⟨h, cap, cur, e2, hg, hh, hrest⟩
  · omega
  · injection e2 with e1 _ e3
    subst e1
    subst e3
    have hc := World.ownsRow.cellAt ho 0 (by decide)
    exact ⟨h, _, rfl, hc, hb⟩
theorem read_two (b off n c : Nat) (f : Nat → Nat) (hf : ∀ i, f i < 256) (hn : n ≤ 9223372036854775807) (hnc : n ≤ c) (hcm : c ≤ 9223372036854775807) (k : Nat) (h32 : 32 ≤ n) (hE : openE f n k = 0) (w : World) (hb : b < w.heap.size) (hr : Rd w (some ⟨b, off, none⟩) n f) :
    Calls Try.prog 63 #[.slice (some ⟨b, off, none⟩) n c, .int .i64 k, .int .i64 2] w fun e w' => ∃ h c', e = .returned (.tuple #[.slice (some ⟨h, 0, none⟩) 2 c', .slice (some ⟨b, off + 12, none⟩) (n - 12 : Nat) (c - 12 : Nat), .int .i64 0]) ∧ w'.cell? ⟨h, 0, none⟩ = some (.int .u32 (le f 4 4 : Nat)) ∧ w'.cell? ⟨h, 1, none⟩ = some (.int .u32 (le f 8 4 : Nat)) ∧ Below w.heap.size w w' := by
  refine (read_ok b off n c f hf hn hnc hcm k 2 (by omega) (by omega) h32 hE w hb hr).mono ?_
  rintro e w' ⟨A', c', rfl, ho, hb⟩
  rcases ho.2 with ⟨_, h0⟩ | ⟨h, cap, cur, e2, hg, hh, hrest⟩
  · omega
  · injection e2 with e1 _ e3
    subst e1
    subst e3
    have hc := World.ownsRow.cellAt ho 0 (by decide)
    have hd := World.ownsRow.cellAt ho 1 (by decide)
    exact ⟨h, _, rfl, hc, hd, hb⟩

set_option maxRecDepth 100000 in
set_option maxHeartbeats 4000000 in
theorem hello_ok (b off c : Nat) (f : Nat → Nat) (hf : ∀ i, f i < 256) (hnc : 148 ≤ c) (hcm : c ≤ 9223372036854775807) (hE : openE f 148 1 = 0) (w : World) (hb : b < w.heap.size) (hr : Rd w (some ⟨b, off, none⟩) 148 f) :
    Calls Try.prog 31 #[.slice (some ⟨b, off, none⟩) 148 c, .agg (one (le f 4 4) (fun i => f (8 + i)) 140).toArray, .int .i64 0] w fun e w' => e = .returned (.bool true) ∧ Below w.heap.size w w' := by
  have C := Lib.hid (fun w hb hr => read_one b off 148 c f hf (by omega) hnc hcm 1 (by omega) hE w hb hr)
  have D := Lib.hid (restHello_any (le f 4 4) (fun i => f (8 + i)) (fun i => hf _))
  have HR := Lib.hid hr
  have HT := Lib.hid (rd_from hr 8 140 (by omega) (by omega))
  generalize le f 4 4 = s at C D HT ⊢
  generalize (fun i => f (8 + i)) = g at C D HT ⊢
  clear hf hr
  have HSZ := Lib.hid (show (one s g 140).toArray.size = 141 from by rw [List.size_toArray, one_length])
  have HC0 := Lib.hid (show (one s g 140).toArray[0]? = some (.int .u32 (s : Nat)) from rfl)
  generalize (one s g 140).toArray = L at D HSZ HC0 ⊢
  go_enter Try.func31, Try.ntmps31
  go_upto_region 1 with fail
  refine cut_world (fun X => Whole X w.heap.size 29 L ∧ Below w.heap.size w X) ⟨whole_new _ _ rfl, below_alloc (Below.refl _ _) _⟩ ?_
  rintro X0 ⟨k1, kb⟩
  generalize hB : w.heap.size = B at k1 kb hb ⊢
  have HB := Lib.hid hB
  have Q1 := Lib.hid k1
  have QB := Lib.hid kb
  have hbl : b < X0.heap.size := by have := k1.lt; omega
  have QR := Lib.hid (HR.out.below kb (by rw [hB]; exact Nat.le_refl _))
  have QT := Lib.hid (HT.out.below kb (by rw [hB]; exact Nat.le_refl _))
  clear k1 kb HR HT
  go_wp2_with fail
  refine (C.out _ hbl QR.out).mono ?_
  rintro e X ⟨h, c', rfl, hc0, hbX⟩
  have HX1 := Lib.hid (Q1.out.below hbX Q1.out.lt)
  have HXT := Lib.hid (QT.out.below hbX (Nat.le_refl _))
  have HXB := Lib.hid (QB.out.trans (hbX.mono (Nat.le_of_lt Q1.out.lt)))
  have hhl : h < X.heap.size := by
    rcases Nat.lt_or_ge h X.heap.size with k | k
    · exact k
    · simp [World.cell?, Array.getElem?_eq_none k] at hc0
  have HF0 := Lib.hid (fun (Y : World) (hw : Below X.heap.size X Y) => (hw.cell (p := ⟨h, 0, none⟩) hhl).trans hc0)
  have HM0 := Lib.hid (fun (Y : World) (hw : Below X.heap.size X Y) => ((HX1.out.below hw HX1.out.lt).cell 0).trans HC0.out)
  clear hc0 hbX Q1 QB QR QT C
  go_upto_region 4 with fail
  refine region_drew (fun Y => Below X.heap.size X Y) (by kernel_rfl) (below_drewN (Below.refl _ _) 1) ?_
  intro hS
  refine take 0 _ rfl (by kernel_rfl) (by kernel_rfl) (by kernel_rfl) (fun _ _ _ h => h) (by rfl) hS (by intro w _; go_simp; with_reducible rfl) ?_
  try simp only [Act.put, List.setIfInBounds_toArray, List.set_cons_zero, List.set_cons_succ]
  refine take 1 _ rfl (by kernel_rfl) (by kernel_rfl) (by kernel_rfl) (fun _ _ _ h => h) (by rfl) hS (by intro w hw; have hcl := HM0.out w hw; go_simp; with_reducible rfl) ?_
  try simp only [Act.put, List.setIfInBounds_toArray, List.set_cons_zero, List.set_cons_succ]
  refine take 2 _ rfl (by kernel_rfl) (by kernel_rfl) (by kernel_rfl) (fun _ _ _ h => h) (by rfl) hS (by intro w _; go_simp; with_reducible rfl) ?_
  try simp only [Act.put, List.setIfInBounds_toArray, List.set_cons_zero, List.set_cons_succ]
  refine take 3 _ rfl (by kernel_rfl) (by kernel_rfl) (by kernel_rfl) (fun _ _ _ h => h) (by rfl) hS (by intro w _; go_simp; with_reducible rfl) ?_
  try simp only [Act.put, List.setIfInBounds_toArray, List.set_cons_zero, List.set_cons_succ]
  refine take 4 _ rfl (by kernel_rfl) (by kernel_rfl) (by kernel_rfl) (fun _ _ _ h => h) (by rfl) hS (by intro w hw; have hcl := HF0.out w hw; go_simp; with_reducible rfl) ?_
  try simp only [Act.put, List.setIfInBounds_toArray, List.set_cons_zero, List.set_cons_succ]
  refine take 5 _ rfl (by kernel_rfl) (by kernel_rfl) (by kernel_rfl) (fun _ _ _ h => h) (by rfl) hS (by intro w _; go_simp; with_reducible rfl) ?_
  try simp only [Act.put, List.setIfInBounds_toArray, List.set_cons_zero, List.set_cons_succ]
  refine take 6 _ rfl (by kernel_rfl) (by kernel_rfl) (by kernel_rfl) (fun _ _ _ h => h) (by rfl) hS (by intro w _; go_simp; with_reducible rfl) ?_
  try simp only [Act.put, List.setIfInBounds_toArray, List.set_cons_zero, List.set_cons_succ]
  refine take 7 _ rfl (by kernel_rfl) (by kernel_rfl) (by kernel_rfl) (fun _ _ _ h => h) (by rfl) hS (fun w hw => run_load_op 29 (.tmp 4) rfl (B) rfl (HX1.out.below hw HX1.out.lt) rfl rfl (by rw [HSZ.out]; kernel_rfl)) ?_
  try simp only [Act.put, List.setIfInBounds_toArray, List.set_cons_zero, List.set_cons_succ]
  refine take 10 _ rfl (by kernel_rfl) (by kernel_rfl) (by kernel_rfl) (fun _ _ _ h => h) (by rfl) hS (by intro w _; go_simp; with_reducible rfl) ?_
  try simp only [Act.put, List.setIfInBounds_toArray, List.set_cons_zero, List.set_cons_succ]
  refine take 11 _ rfl (by kernel_rfl) (by kernel_rfl) (by kernel_rfl) (fun _ _ _ h => h) (by rfl) hS (fun w hw => run_string_op 36 9 5 _ rfl rfl Try.underlying36 Try.underlying5 Try.underlying9 (HXT.out.below hw (Nat.le_refl _))) ?_
  try simp only [Act.put, List.setIfInBounds_toArray, List.set_cons_zero, List.set_cons_succ]
  refine alone 8 rfl (by kernel_rfl) (by rfl) ?_
  intro K hK
  go_simp
  refine (D.out _).mono ?_
  rintro e v1 ⟨A1, c1, rfl, ho, hb⟩
  go_simp
  replace hS := below_trans hS hb
  refine hK.out _ _ hS ?_
  clear hK hb K
  try simp only [Act.put, List.setIfInBounds_toArray, List.set_cons_zero, List.set_cons_succ]
  refine alone_run 9 _ rfl (by kernel_rfl) (by rfl) hS (run_string_op 36 9 5 _ rfl rfl Try.underlying36 Try.underlying5 Try.underlying9 (ho.rd)) ?_
  try simp only [Act.put, List.setIfInBounds_toArray, List.set_cons_zero, List.set_cons_succ]
  refine take 12 _ rfl (by kernel_rfl) (by kernel_rfl) (by kernel_rfl) (fun _ _ _ h => h) (by rfl) hS (by intro w _; go_simp; with_reducible rfl) ?_
  try simp only [Act.put, List.setIfInBounds_toArray, List.set_cons_zero, List.set_cons_succ]
  refine take 13 _ rfl (by kernel_rfl) (by kernel_rfl) (by kernel_rfl) (fun _ _ _ h => h) (by rfl) hS (by intro w _; go_simp; with_reducible rfl) ?_
  try simp only [Act.put, List.setIfInBounds_toArray, List.set_cons_zero, List.set_cons_succ]
  refine take 14 _ rfl (by kernel_rfl) (by kernel_rfl) (by kernel_rfl) (fun _ _ _ h => h) (by rfl) hS (by intro w _; go_simp; with_reducible rfl) ?_
  try simp only [Act.put, List.setIfInBounds_toArray, List.set_cons_zero, List.set_cons_succ]
  refine region_end (by kernel_rfl) ?_
  have HBE := Lib.hid (HXB.out.trans (hS.mono (Nat.le_of_lt HX1.out.lt)))
  clear hS
  go_wp2_with fail
  go_ret
  exact ⟨rfl, by rw [HB.out]; exact HBE.out⟩

set_option maxRecDepth 100000 in
set_option maxHeartbeats 4000000 in
theorem answer_ok (b off c : Nat) (f : Nat → Nat) (hf : ∀ i, f i < 256) (hnc : 92 ≤ c) (hcm : c ≤ 9223372036854775807) (hE : openE f 92 2 = 0) (w : World) (hb : b < w.heap.size) (hr : Rd w (some ⟨b, off, none⟩) 92 f) :
    Calls Try.prog 32 #[.slice (some ⟨b, off, none⟩) 92 c, .agg (two (le f 4 4) (le f 8 4) (fun i => f (12 + i)) 80).toArray, .int .i64 0] w fun e w' => e = .returned (.bool true) ∧ Below w.heap.size w w' := by
  have C := Lib.hid (fun w hb hr => read_two b off 92 c f hf (by omega) hnc hcm 2 (by omega) hE w hb hr)
  have D := Lib.hid (restAnswer_any (le f 4 4) (le f 8 4) (fun i => f (12 + i)) (fun i => hf _))
  have HR := Lib.hid hr
  have HT := Lib.hid (rd_from hr 12 80 (by omega) (by omega))
  generalize le f 4 4 = s at C D HT ⊢
  generalize le f 8 4 = r at C D HT ⊢
  generalize (fun i => f (12 + i)) = g at C D HT ⊢
  clear hf hr
  have HSZ := Lib.hid (show (two s r g 80).toArray.size = 82 from by rw [List.size_toArray, two_length])
  have HC0 := Lib.hid (show (two s r g 80).toArray[0]? = some (.int .u32 (s : Nat)) from rfl)
  have HC1 := Lib.hid (show (two s r g 80).toArray[1]? = some (.int .u32 (r : Nat)) from rfl)
  generalize (two s r g 80).toArray = L at D HSZ HC0 HC1 ⊢
  go_enter Try.func32, Try.ntmps32
  go_upto_region 1 with fail
  refine cut_world (fun X => Whole X w.heap.size 31 L ∧ Below w.heap.size w X) ⟨whole_new _ _ rfl, below_alloc (Below.refl _ _) _⟩ ?_
  rintro X0 ⟨k1, kb⟩
  generalize hB : w.heap.size = B at k1 kb hb ⊢
  have HB := Lib.hid hB
  have Q1 := Lib.hid k1
  have QB := Lib.hid kb
  have hbl : b < X0.heap.size := by have := k1.lt; omega
  have QR := Lib.hid (HR.out.below kb (by rw [hB]; exact Nat.le_refl _))
  have QT := Lib.hid (HT.out.below kb (by rw [hB]; exact Nat.le_refl _))
  clear k1 kb HR HT
  go_wp2_with fail
  refine (C.out _ hbl QR.out).mono ?_
  rintro e X ⟨h, c', rfl, hc0, hc1, hbX⟩
  have HX1 := Lib.hid (Q1.out.below hbX Q1.out.lt)
  have HXT := Lib.hid (QT.out.below hbX (Nat.le_refl _))
  have HXB := Lib.hid (QB.out.trans (hbX.mono (Nat.le_of_lt Q1.out.lt)))
  have hhl : h < X.heap.size := by
    rcases Nat.lt_or_ge h X.heap.size with k | k
    · exact k
    · simp [World.cell?, Array.getElem?_eq_none k] at hc0
  have HF0 := Lib.hid (fun (Y : World) (hw : Below X.heap.size X Y) => (hw.cell (p := ⟨h, 0, none⟩) hhl).trans hc0)
  have HF1 := Lib.hid (fun (Y : World) (hw : Below X.heap.size X Y) => (hw.cell (p := ⟨h, 1, none⟩) hhl).trans hc1)
  have HM0 := Lib.hid (fun (Y : World) (hw : Below X.heap.size X Y) => ((HX1.out.below hw HX1.out.lt).cell 0).trans HC0.out)
  have HM1 := Lib.hid (fun (Y : World) (hw : Below X.heap.size X Y) => ((HX1.out.below hw HX1.out.lt).cell 1).trans HC1.out)
  clear hc0 hc1 hbX Q1 QB QR QT C
  go_upto_region 4 with fail
  refine region_drew (fun Y => Below X.heap.size X Y) (by kernel_rfl) (below_drewN (Below.refl _ _) 1) ?_
  intro hS
  refine take 0 _ rfl (by kernel_rfl) (by kernel_rfl) (by kernel_rfl) (fun _ _ _ h => h) (by rfl) hS (by intro w _; go_simp; with_reducible rfl) ?_
  try simp only [Act.put, List.setIfInBounds_toArray, List.set_cons_zero, List.set_cons_succ]
  refine take 1 _ rfl (by kernel_rfl) (by kernel_rfl) (by kernel_rfl) (fun _ _ _ h => h) (by rfl) hS (by intro w hw; have hcl := HM0.out w hw; go_simp; with_reducible rfl) ?_
  try simp only [Act.put, List.setIfInBounds_toArray, List.set_cons_zero, List.set_cons_succ]
  refine take 2 _ rfl (by kernel_rfl) (by kernel_rfl) (by kernel_rfl) (fun _ _ _ h => h) (by rfl) hS (by intro w _; go_simp; with_reducible rfl) ?_
  try simp only [Act.put, List.setIfInBounds_toArray, List.set_cons_zero, List.set_cons_succ]
  refine take 3 _ rfl (by kernel_rfl) (by kernel_rfl) (by kernel_rfl) (fun _ _ _ h => h) (by rfl) hS (by intro w _; go_simp; with_reducible rfl) ?_
  try simp only [Act.put, List.setIfInBounds_toArray, List.set_cons_zero, List.set_cons_succ]
  refine take 4 _ rfl (by kernel_rfl) (by kernel_rfl) (by kernel_rfl) (fun _ _ _ h => h) (by rfl) hS (by intro w hw; have hcl := HF0.out w hw; go_simp; with_reducible rfl) ?_
  try simp only [Act.put, List.setIfInBounds_toArray, List.set_cons_zero, List.set_cons_succ]
  refine take 5 _ rfl (by kernel_rfl) (by kernel_rfl) (by kernel_rfl) (fun _ _ _ h => h) (by rfl) hS (by intro w _; go_simp; with_reducible rfl) ?_
  try simp only [Act.put, List.setIfInBounds_toArray, List.set_cons_zero, List.set_cons_succ]
  refine take 6 _ rfl (by kernel_rfl) (by kernel_rfl) (by kernel_rfl) (fun _ _ _ h => h) (by rfl) hS (by intro w _; go_simp; with_reducible rfl) ?_
  try simp only [Act.put, List.setIfInBounds_toArray, List.set_cons_zero, List.set_cons_succ]
  refine take 7 _ rfl (by kernel_rfl) (by kernel_rfl) (by kernel_rfl) (fun _ _ _ h => h) (by rfl) hS (by intro w _; go_simp; with_reducible rfl) ?_
  try simp only [Act.put, List.setIfInBounds_toArray, List.set_cons_zero, List.set_cons_succ]
  refine take 8 _ rfl (by kernel_rfl) (by kernel_rfl) (by kernel_rfl) (fun _ _ _ h => h) (by rfl) hS (by intro w hw; have hcl := HM1.out w hw; go_simp; with_reducible rfl) ?_
  try simp only [Act.put, List.setIfInBounds_toArray, List.set_cons_zero, List.set_cons_succ]
  refine take 9 _ rfl (by kernel_rfl) (by kernel_rfl) (by kernel_rfl) (fun _ _ _ h => h) (by rfl) hS (by intro w _; go_simp; with_reducible rfl) ?_
  try simp only [Act.put, List.setIfInBounds_toArray, List.set_cons_zero, List.set_cons_succ]
  refine take 10 _ rfl (by kernel_rfl) (by kernel_rfl) (by kernel_rfl) (fun _ _ _ h => h) (by rfl) hS (by intro w _; go_simp; with_reducible rfl) ?_
  try simp only [Act.put, List.setIfInBounds_toArray, List.set_cons_zero, List.set_cons_succ]
  refine take 11 _ rfl (by kernel_rfl) (by kernel_rfl) (by kernel_rfl) (fun _ _ _ h => h) (by rfl) hS (by intro w hw; have hcl := HF1.out w hw; go_simp; with_reducible rfl) ?_
  try simp only [Act.put, List.setIfInBounds_toArray, List.set_cons_zero, List.set_cons_succ]
  refine take 12 _ rfl (by kernel_rfl) (by kernel_rfl) (by kernel_rfl) (fun _ _ _ h => h) (by rfl) hS (by intro w _; go_simp; with_reducible rfl) ?_
  try simp only [Act.put, List.setIfInBounds_toArray, List.set_cons_zero, List.set_cons_succ]
  refine take 13 _ rfl (by kernel_rfl) (by kernel_rfl) (by kernel_rfl) (fun _ _ _ h => h) (by rfl) hS (by intro w _; go_simp; with_reducible rfl) ?_
  try simp only [Act.put, List.setIfInBounds_toArray, List.set_cons_zero, List.set_cons_succ]
  refine take 14 _ rfl (by kernel_rfl) (by kernel_rfl) (by kernel_rfl) (fun _ _ _ h => h) (by rfl) hS (by intro w _; go_simp; with_reducible rfl) ?_
  try simp only [Act.put, List.setIfInBounds_toArray, List.set_cons_zero, List.set_cons_succ]
  refine take 15 _ rfl (by kernel_rfl) (by kernel_rfl) (by kernel_rfl) (fun _ _ _ h => h) (by rfl) hS (fun w hw => run_load_op 31 (.tmp 4) rfl (B) rfl (HX1.out.below hw HX1.out.lt) rfl rfl (by rw [HSZ.out]; kernel_rfl)) ?_
  try simp only [Act.put, List.setIfInBounds_toArray, List.set_cons_zero, List.set_cons_succ]
  refine take 18 _ rfl (by kernel_rfl) (by kernel_rfl) (by kernel_rfl) (fun _ _ _ h => h) (by rfl) hS (by intro w _; go_simp; with_reducible rfl) ?_
  try simp only [Act.put, List.setIfInBounds_toArray, List.set_cons_zero, List.set_cons_succ]
  refine take 19 _ rfl (by kernel_rfl) (by kernel_rfl) (by kernel_rfl) (fun _ _ _ h => h) (by rfl) hS (fun w hw => run_string_op 36 9 5 _ rfl rfl Try.underlying36 Try.underlying5 Try.underlying9 (HXT.out.below hw (Nat.le_refl _))) ?_
  try simp only [Act.put, List.setIfInBounds_toArray, List.set_cons_zero, List.set_cons_succ]
  refine alone 16 rfl (by kernel_rfl) (by rfl) ?_
  intro K hK
  go_simp
  refine (D.out _).mono ?_
  rintro e v1 ⟨A1, c1, rfl, ho, hb⟩
  go_simp
  replace hS := below_trans hS hb
  refine hK.out _ _ hS ?_
  clear hK hb K
  try simp only [Act.put, List.setIfInBounds_toArray, List.set_cons_zero, List.set_cons_succ]
  refine alone_run 17 _ rfl (by kernel_rfl) (by rfl) hS (run_string_op 36 9 5 _ rfl rfl Try.underlying36 Try.underlying5 Try.underlying9 (ho.rd)) ?_
  try simp only [Act.put, List.setIfInBounds_toArray, List.set_cons_zero, List.set_cons_succ]
  refine take 20 _ rfl (by kernel_rfl) (by kernel_rfl) (by kernel_rfl) (fun _ _ _ h => h) (by rfl) hS (by intro w _; go_simp; with_reducible rfl) ?_
  try simp only [Act.put, List.setIfInBounds_toArray, List.set_cons_zero, List.set_cons_succ]
  refine take 21 _ rfl (by kernel_rfl) (by kernel_rfl) (by kernel_rfl) (fun _ _ _ h => h) (by rfl) hS (by intro w _; go_simp; with_reducible rfl) ?_
  try simp only [Act.put, List.setIfInBounds_toArray, List.set_cons_zero, List.set_cons_succ]
  refine take 22 _ rfl (by kernel_rfl) (by kernel_rfl) (by kernel_rfl) (fun _ _ _ h => h) (by rfl) hS (by intro w _; go_simp; with_reducible rfl) ?_
  try simp only [Act.put, List.setIfInBounds_toArray, List.set_cons_zero, List.set_cons_succ]
  refine region_end (by kernel_rfl) ?_
  have HBE := Lib.hid (HXB.out.trans (hS.mono (Nat.le_of_lt HX1.out.lt)))
  clear hS
  go_wp2_with fail
  go_ret
  exact ⟨rfl, by rw [HB.out]; exact HBE.out⟩

set_option maxRecDepth 100000 in
set_option maxHeartbeats 4000000 in
theorem cookie_ok (b off c : Nat) (f : Nat → Nat) (hf : ∀ i, f i < 256) (hnc : 64 ≤ c) (hcm : c ≤ 9223372036854775807) (hE : openE f 64 3 = 0) (w : World) (hb : b < w.heap.size) (hr : Rd w (some ⟨b, off, none⟩) 64 f) :
    Calls Try.prog 33 #[.slice (some ⟨b, off, none⟩) 64 c, .agg (one (le f 4 4) (fun i => f (8 + i)) 56).toArray, .int .i64 0] w fun e w' => e = .returned (.bool true) ∧ Below w.heap.size w w' := by
  have C := Lib.hid (fun w hb hr => read_one b off 64 c f hf (by omega) hnc hcm 3 (by omega) hE w hb hr)
  have D := Lib.hid (restCookie_any (le f 4 4) (fun i => f (8 + i)) (fun i => hf _))
  have HR := Lib.hid hr
  have HT := Lib.hid (rd_from hr 8 56 (by omega) (by omega))
  generalize le f 4 4 = s at C D HT ⊢
  generalize (fun i => f (8 + i)) = g at C D HT ⊢
  clear hf hr
  have HSZ := Lib.hid (show (one s g 56).toArray.size = 57 from by rw [List.size_toArray, one_length])
  have HC0 := Lib.hid (show (one s g 56).toArray[0]? = some (.int .u32 (s : Nat)) from rfl)
  generalize (one s g 56).toArray = L at D HSZ HC0 ⊢
  go_enter Try.func33, Try.ntmps33
  go_upto_region 1 with fail
  refine cut_world (fun X => Whole X w.heap.size 34 L ∧ Below w.heap.size w X) ⟨whole_new _ _ rfl, below_alloc (Below.refl _ _) _⟩ ?_
  rintro X0 ⟨k1, kb⟩
  generalize hB : w.heap.size = B at k1 kb hb ⊢
  have HB := Lib.hid hB
  have Q1 := Lib.hid k1
  have QB := Lib.hid kb
  have hbl : b < X0.heap.size := by have := k1.lt; omega
  have QR := Lib.hid (HR.out.below kb (by rw [hB]; exact Nat.le_refl _))
  have QT := Lib.hid (HT.out.below kb (by rw [hB]; exact Nat.le_refl _))
  clear k1 kb HR HT
  go_wp2_with fail
  refine (C.out _ hbl QR.out).mono ?_
  rintro e X ⟨h, c', rfl, hc0, hbX⟩
  have HX1 := Lib.hid (Q1.out.below hbX Q1.out.lt)
  have HXT := Lib.hid (QT.out.below hbX (Nat.le_refl _))
  have HXB := Lib.hid (QB.out.trans (hbX.mono (Nat.le_of_lt Q1.out.lt)))
  have hhl : h < X.heap.size := by
    rcases Nat.lt_or_ge h X.heap.size with k | k
    · exact k
    · simp [World.cell?, Array.getElem?_eq_none k] at hc0
  have HF0 := Lib.hid (fun (Y : World) (hw : Below X.heap.size X Y) => (hw.cell (p := ⟨h, 0, none⟩) hhl).trans hc0)
  have HM0 := Lib.hid (fun (Y : World) (hw : Below X.heap.size X Y) => ((HX1.out.below hw HX1.out.lt).cell 0).trans HC0.out)
  clear hc0 hbX Q1 QB QR QT C
  go_upto_region 4 with fail
  refine region_drew (fun Y => Below X.heap.size X Y) (by kernel_rfl) (below_drewN (Below.refl _ _) 1) ?_
  intro hS
  refine take 0 _ rfl (by kernel_rfl) (by kernel_rfl) (by kernel_rfl) (fun _ _ _ h => h) (by rfl) hS (by intro w _; go_simp; with_reducible rfl) ?_
  try simp only [Act.put, List.setIfInBounds_toArray, List.set_cons_zero, List.set_cons_succ]
  refine take 1 _ rfl (by kernel_rfl) (by kernel_rfl) (by kernel_rfl) (fun _ _ _ h => h) (by rfl) hS (by intro w hw; have hcl := HM0.out w hw; go_simp; with_reducible rfl) ?_
  try simp only [Act.put, List.setIfInBounds_toArray, List.set_cons_zero, List.set_cons_succ]
  refine take 2 _ rfl (by kernel_rfl) (by kernel_rfl) (by kernel_rfl) (fun _ _ _ h => h) (by rfl) hS (by intro w _; go_simp; with_reducible rfl) ?_
  try simp only [Act.put, List.setIfInBounds_toArray, List.set_cons_zero, List.set_cons_succ]
  refine take 3 _ rfl (by kernel_rfl) (by kernel_rfl) (by kernel_rfl) (fun _ _ _ h => h) (by rfl) hS (by intro w _; go_simp; with_reducible rfl) ?_
  try simp only [Act.put, List.setIfInBounds_toArray, List.set_cons_zero, List.set_cons_succ]
  refine take 4 _ rfl (by kernel_rfl) (by kernel_rfl) (by kernel_rfl) (fun _ _ _ h => h) (by rfl) hS (by intro w hw; have hcl := HF0.out w hw; go_simp; with_reducible rfl) ?_
  try simp only [Act.put, List.setIfInBounds_toArray, List.set_cons_zero, List.set_cons_succ]
  refine take 5 _ rfl (by kernel_rfl) (by kernel_rfl) (by kernel_rfl) (fun _ _ _ h => h) (by rfl) hS (by intro w _; go_simp; with_reducible rfl) ?_
  try simp only [Act.put, List.setIfInBounds_toArray, List.set_cons_zero, List.set_cons_succ]
  refine take 6 _ rfl (by kernel_rfl) (by kernel_rfl) (by kernel_rfl) (fun _ _ _ h => h) (by rfl) hS (by intro w _; go_simp; with_reducible rfl) ?_
  try simp only [Act.put, List.setIfInBounds_toArray, List.set_cons_zero, List.set_cons_succ]
  refine take 7 _ rfl (by kernel_rfl) (by kernel_rfl) (by kernel_rfl) (fun _ _ _ h => h) (by rfl) hS (fun w hw => run_load_op 34 (.tmp 4) rfl (B) rfl (HX1.out.below hw HX1.out.lt) rfl rfl (by rw [HSZ.out]; kernel_rfl)) ?_
  try simp only [Act.put, List.setIfInBounds_toArray, List.set_cons_zero, List.set_cons_succ]
  refine take 10 _ rfl (by kernel_rfl) (by kernel_rfl) (by kernel_rfl) (fun _ _ _ h => h) (by rfl) hS (by intro w _; go_simp; with_reducible rfl) ?_
  try simp only [Act.put, List.setIfInBounds_toArray, List.set_cons_zero, List.set_cons_succ]
  refine take 11 _ rfl (by kernel_rfl) (by kernel_rfl) (by kernel_rfl) (fun _ _ _ h => h) (by rfl) hS (fun w hw => run_string_op 36 9 5 _ rfl rfl Try.underlying36 Try.underlying5 Try.underlying9 (HXT.out.below hw (Nat.le_refl _))) ?_
  try simp only [Act.put, List.setIfInBounds_toArray, List.set_cons_zero, List.set_cons_succ]
  refine alone 8 rfl (by kernel_rfl) (by rfl) ?_
  intro K hK
  go_simp
  refine (D.out _).mono ?_
  rintro e v1 ⟨A1, c1, rfl, ho, hb⟩
  go_simp
  replace hS := below_trans hS hb
  refine hK.out _ _ hS ?_
  clear hK hb K
  try simp only [Act.put, List.setIfInBounds_toArray, List.set_cons_zero, List.set_cons_succ]
  refine alone_run 9 _ rfl (by kernel_rfl) (by rfl) hS (run_string_op 36 9 5 _ rfl rfl Try.underlying36 Try.underlying5 Try.underlying9 (ho.rd)) ?_
  try simp only [Act.put, List.setIfInBounds_toArray, List.set_cons_zero, List.set_cons_succ]
  refine take 12 _ rfl (by kernel_rfl) (by kernel_rfl) (by kernel_rfl) (fun _ _ _ h => h) (by rfl) hS (by intro w _; go_simp; with_reducible rfl) ?_
  try simp only [Act.put, List.setIfInBounds_toArray, List.set_cons_zero, List.set_cons_succ]
  refine take 13 _ rfl (by kernel_rfl) (by kernel_rfl) (by kernel_rfl) (fun _ _ _ h => h) (by rfl) hS (by intro w _; go_simp; with_reducible rfl) ?_
  try simp only [Act.put, List.setIfInBounds_toArray, List.set_cons_zero, List.set_cons_succ]
  refine take 14 _ rfl (by kernel_rfl) (by kernel_rfl) (by kernel_rfl) (fun _ _ _ h => h) (by rfl) hS (by intro w _; go_simp; with_reducible rfl) ?_
  try simp only [Act.put, List.setIfInBounds_toArray, List.set_cons_zero, List.set_cons_succ]
  refine region_end (by kernel_rfl) ?_
  have HBE := Lib.hid (HXB.out.trans (hS.mono (Nat.le_of_lt HX1.out.lt)))
  clear hS
  go_wp2_with fail
  go_ret
  exact ⟨rfl, by rw [HB.out]; exact HBE.out⟩

theorem wpList_built0_if {P : Program} {ops : Array Oper} {rest : List Oper} {o : Oper} {a : Act} {w : World} {Q : Exit → Act → World → Prop} (hw : Region.wanted o (yielded ops a.tmps) = true) (t : TypeId) (ho : o.op = .build t #[])
    (vs : Array Value) (hb : P.built t [] = some vs) (h : wpList P ops Q rest (a.put o.dst (.agg vs)) w) : wpList P ops Q (o :: rest) a w := by
  have e : P.built t ((#[] : Array (Nat × Operand)).map fun (i, x) => (i, a.eval x)).toList = some vs := by simpa using hb
  refine wpList_step fun _ hK => ?_
  rw [if_pos hw]
  refine wp_build t #[] ho (by rw [e]; rfl) (hK _ _ ?_)
  rw [e]
  exact h
set_option maxRecDepth 100000 in
set_option maxHeartbeats 4000000 in
theorem hello_no (A : Option Addr) (n c : Nat) (f : Nat → Nat) (hf : ∀ i, f i < 256) (hn : n ≤ 9223372036854775807) (hE : openE f n 1 ≠ 0) (w : World) (hr : Rd w A n f) :
    Calls Try.prog 31 #[.slice A n c, .agg (one 0 (fun _ => 0) 140).toArray, .int .i64 (openE f n 1 : Nat)] w fun e w' => e = .returned (.bool true) ∧ Below w.heap.size w w' := by
  have C := Lib.hid (fun w hr => read_no A n c f hf hn 1 1 hE w hr)
  have HR := Lib.hid hr
  generalize openE f n 1 = E at C hE ⊢
  have d0 : (((E : Nat) : Int) == 0) = false := by rw [beq_eq_false_iff_ne]; omega
  have d1 : ((E : Nat) : Int) ≠ 0 := by omega
  have HQ := Lib.hid (hello_eq 0 (fun _ => 0) (by omega) (fun _ => by omega))
  have HSZ := Lib.hid (show (one 0 (fun _ => 0) 140).length = 141 from one_length _ _ _)
  have HBT := Lib.hid (show Try.prog.built 29 [] = some (one 0 (fun _ => 0) 140).toArray from hello_zero)
  generalize one 0 (fun _ => 0) 140 = L at HQ HSZ HBT ⊢
  clear hf hr hE
  go_enter Try.func31, Try.ntmps31
  go_upto_region 1 with fail
  refine cut_world (fun X => Whole X w.heap.size 29 L.toArray ∧ Below w.heap.size w X) ⟨whole_new _ _ rfl, below_alloc (Below.refl _ _) _⟩ ?_
  rintro X ⟨k1, kb⟩
  generalize hB : w.heap.size = B at k1 kb ⊢
  have HB := Lib.hid hB
  have Q1 := Lib.hid k1
  have QB := Lib.hid kb
  have QR := Lib.hid (HR.out.below kb (by rw [hB]; exact Nat.le_refl _))
  clear k1 kb HR
  go_wp2_with fail
  refine (C.out _ QR.out).mono ?_
  rintro e X1 ⟨rfl, rfl⟩
  go_wp2_with (first | (refine Poly.wpList_load_row_if (by rfl) 29 (.tmp 4) rfl B rfl 29 L _ Q1.out rfl rfl (by rw [HSZ.out]; kernel_rfl) ?_) | (refine wpList_built0_if (by rfl) 29 rfl L.toArray HBT.out ?_) | (refine Ops.wpList_value_if (by rfl) (.bool true) (Ops.run_eql_op 29 (.tmp 27) (.tmp 28) _ rfl L.toArray L.toArray rfl rfl true (by kernel_rfl) HQ.out _) ?_))
  go_ret
  exact ⟨rfl, by rw [HB.out]; exact QB.out⟩

set_option maxRecDepth 100000 in
set_option maxHeartbeats 4000000 in
theorem answer_no (A : Option Addr) (n c : Nat) (f : Nat → Nat) (hf : ∀ i, f i < 256) (hn : n ≤ 9223372036854775807) (hE : openE f n 2 ≠ 0) (w : World) (hr : Rd w A n f) :
    Calls Try.prog 32 #[.slice A n c, .agg (two 0 0 (fun _ => 0) 80).toArray, .int .i64 (openE f n 2 : Nat)] w fun e w' => e = .returned (.bool true) ∧ Below w.heap.size w w' := by
  have C := Lib.hid (fun w hr => read_no A n c f hf hn 2 2 hE w hr)
  have HR := Lib.hid hr
  generalize openE f n 2 = E at C hE ⊢
  have d0 : (((E : Nat) : Int) == 0) = false := by rw [beq_eq_false_iff_ne]; omega
  have d1 : ((E : Nat) : Int) ≠ 0 := by omega
  have HQ := Lib.hid (answer_eq 0 0 (fun _ => 0) (by omega) (by omega) (fun _ => by omega))
  have HSZ := Lib.hid (show (two 0 0 (fun _ => 0) 80).length = 82 from two_length _ _ _ _)
  have HBT := Lib.hid (show Try.prog.built 31 [] = some (two 0 0 (fun _ => 0) 80).toArray from answer_zero)
  generalize two 0 0 (fun _ => 0) 80 = L at HQ HSZ HBT ⊢
  clear hf hr hE
  go_enter Try.func32, Try.ntmps32
  go_upto_region 1 with fail
  refine cut_world (fun X => Whole X w.heap.size 31 L.toArray ∧ Below w.heap.size w X) ⟨whole_new _ _ rfl, below_alloc (Below.refl _ _) _⟩ ?_
  rintro X ⟨k1, kb⟩
  generalize hB : w.heap.size = B at k1 kb ⊢
  have HB := Lib.hid hB
  have Q1 := Lib.hid k1
  have QB := Lib.hid kb
  have QR := Lib.hid (HR.out.below kb (by rw [hB]; exact Nat.le_refl _))
  clear k1 kb HR
  go_wp2_with fail
  refine (C.out _ QR.out).mono ?_
  rintro e X1 ⟨rfl, rfl⟩
  go_wp2_with (first | (refine Poly.wpList_load_row_if (by rfl) 31 (.tmp 4) rfl B rfl 31 L _ Q1.out rfl rfl (by rw [HSZ.out]; kernel_rfl) ?_) | (refine wpList_built0_if (by rfl) 31 rfl L.toArray HBT.out ?_) | (refine Ops.wpList_value_if (by rfl) (.bool true) (Ops.run_eql_op 31 (.tmp 27) (.tmp 28) _ rfl L.toArray L.toArray rfl rfl true (by kernel_rfl) HQ.out _) ?_))
  go_ret
  exact ⟨rfl, by rw [HB.out]; exact QB.out⟩

set_option maxRecDepth 100000 in
set_option maxHeartbeats 4000000 in
theorem cookie_no (A : Option Addr) (n c : Nat) (f : Nat → Nat) (hf : ∀ i, f i < 256) (hn : n ≤ 9223372036854775807) (hE : openE f n 3 ≠ 0) (w : World) (hr : Rd w A n f) :
    Calls Try.prog 33 #[.slice A n c, .agg (one 0 (fun _ => 0) 56).toArray, .int .i64 (openE f n 3 : Nat)] w fun e w' => e = .returned (.bool true) ∧ Below w.heap.size w w' := by
  have C := Lib.hid (fun w hr => read_no A n c f hf hn 3 1 hE w hr)
  have HR := Lib.hid hr
  generalize openE f n 3 = E at C hE ⊢
  have d0 : (((E : Nat) : Int) == 0) = false := by rw [beq_eq_false_iff_ne]; omega
  have d1 : ((E : Nat) : Int) ≠ 0 := by omega
  have HQ := Lib.hid (cookie_eq 0 (fun _ => 0) (by omega) (fun _ => by omega))
  have HSZ := Lib.hid (show (one 0 (fun _ => 0) 56).length = 57 from one_length _ _ _)
  have HBT := Lib.hid (show Try.prog.built 34 [] = some (one 0 (fun _ => 0) 56).toArray from cookie_zero)
  generalize one 0 (fun _ => 0) 56 = L at HQ HSZ HBT ⊢
  clear hf hr hE
  go_enter Try.func33, Try.ntmps33
  go_upto_region 1 with fail
  refine cut_world (fun X => Whole X w.heap.size 34 L.toArray ∧ Below w.heap.size w X) ⟨whole_new _ _ rfl, below_alloc (Below.refl _ _) _⟩ ?_
  rintro X ⟨k1, kb⟩
  generalize hB : w.heap.size = B at k1 kb ⊢
  have HB := Lib.hid hB
  have Q1 := Lib.hid k1
  have QB := Lib.hid kb
  have QR := Lib.hid (HR.out.below kb (by rw [hB]; exact Nat.le_refl _))
  clear k1 kb HR
  go_wp2_with fail
  refine (C.out _ QR.out).mono ?_
  rintro e X1 ⟨rfl, rfl⟩
  go_wp2_with (first | (refine Poly.wpList_load_row_if (by rfl) 34 (.tmp 4) rfl B rfl 34 L _ Q1.out rfl rfl (by rw [HSZ.out]; kernel_rfl) ?_) | (refine wpList_built0_if (by rfl) 34 rfl L.toArray HBT.out ?_) | (refine Ops.wpList_value_if (by rfl) (.bool true) (Ops.run_eql_op 34 (.tmp 27) (.tmp 28) _ rfl L.toArray L.toArray rfl rfl true (by kernel_rfl) HQ.out _) ?_))
  go_ret
  exact ⟨rfl, by rw [HB.out]; exact QB.out⟩

set_option maxRecDepth 100000 in
set_option maxHeartbeats 4000000 in
theorem data_no (A : Option Addr) (n c : Nat) (f : Nat → Nat) (hf : ∀ i, f i < 256) (hn : n ≤ 9223372036854775807) (hE : openE f n 4 ≠ 0) (w : World) (hr : Rd w A n f) :
    Calls Try.prog 34 #[.slice A n c, .agg #[.int .u32 0, .int .u64 0, .slice none 0 0], .int .i64 (openE f n 4 : Nat)] w fun e w' => e = .returned (.bool true) ∧ Below w.heap.size w w' := by
  have C := Lib.hid (fun w hr => read_no A n c f hf hn 4 1 hE w hr)
  have HR := Lib.hid hr
  generalize openE f n 4 = E at C hE ⊢
  have d0 : (((E : Nat) : Int) == 0) = false := by rw [beq_eq_false_iff_ne]; omega
  have d1 : ((E : Nat) : Int) ≠ 0 := by omega
  clear hf hr hE
  go_enter Try.func34, Try.ntmps34
  go_upto_region 1 with fail
  refine cut_world (fun X => Whole X w.heap.size 38 #[.int .u32 0, .int .u64 0, .slice none 0 0] ∧ Below w.heap.size w X) ⟨whole_new _ _ rfl, below_alloc (Below.refl _ _) _⟩ ?_
  rintro X ⟨k1, kb⟩
  generalize hB : w.heap.size = B at k1 kb ⊢
  have HB := Lib.hid hB
  have QB := Lib.hid kb
  have QR := Lib.hid (HR.out.below kb (by rw [hB]; exact Nat.le_refl _))
  have c0 := k1.cell 0
  have c1 := k1.cell 1
  have c2 := k1.cell 2
  simp at c0 c1 c2
  clear k1 kb HR
  go_wp2_with fail
  refine (C.out _ QR.out).mono ?_
  rintro e X1 ⟨rfl, rfl⟩
  go_wp2_with fail
  go_ret
  exact ⟨rfl, by rw [HB.out]; exact QB.out⟩

theorem le_eight (f : Nat → Nat) : le (fun i => f (8 + i)) 0 8 = le f 8 8 := rfl
set_option maxRecDepth 100000 in
set_option maxHeartbeats 4000000 in
theorem data_ok (b off N M gm : Nat) (f : Nat → Nat) (hf : ∀ i, f i < 256) (hnc : N ≤ M) (hcm : M + 16 ≤ 9223372036854775807) (hE : openE f (N + 16) 4 = 0) (w : World) (hb : b < w.heap.size) (hr : Rd w (some ⟨b, off, none⟩) (N + 16) f) (hg : Whole w gm 5 (byteCells (fun i => f (16 + i)) N).toArray) :
    Calls Try.prog 34 #[.slice (some ⟨b, off, none⟩) (N + 16 : Nat) (M + 16 : Nat), .agg #[.int .u32 (le f 4 4 : Nat), .int .u64 (le f 8 8 : Nat), .slice (some ⟨gm, 0, none⟩) N N], .int .i64 0] w fun e w' => e = .returned (.bool true) ∧ Below w.heap.size w w' := by
  have hsz := sizeData hE
  have C := Lib.hid (fun w hb hr => read_one b off (N + 16) (M + 16) f hf (by omega) (by omega) hcm 4 (by omega) hE w hb hr)
  rw [show N + 16 - 8 = N + 8 by omega, show M + 16 - 8 = M + 8 by omega] at C
  have HLE := Lib.hid (fun (A : Addr) (w : World) (h : Rd w (some A) 8 (fun i => f (8 + i))) => Ref.least_any (some A) 8 (M + 8) (fun i => f (8 + i)) (fun i => hf _) (by omega) w h)
  rw [le_eight] at HLE
  have HR := Lib.hid hr
  have HT := Lib.hid (rd_from hr 8 8 (by omega) (by omega))
  have HU := Lib.hid (show Rd w (some ⟨b, off + 8 + 8, none⟩) N (fun i => f (16 + i)) from rd_from hr 16 N (by omega) (by omega))
  have HG := Lib.hid hg
  generalize le f 4 4 = s at C ⊢
  generalize le f 8 8 = y at HLE ⊢
  generalize (fun i => f (8 + i)) = g8 at HLE HT
  generalize (fun i => f (16 + i)) = g at HU HG
  clear hf hr hg hE
  go_enter Try.func34, Try.ntmps34
  go_upto_region 1 with fail
  refine cut_world (fun X => Whole X w.heap.size 38 #[.int .u32 (s : Nat), .int .u64 (y : Nat), .slice (some ⟨gm, 0, none⟩) N N] ∧ Below w.heap.size w X) ⟨whole_new _ _ rfl, below_alloc (Below.refl _ _) _⟩ ?_
  rintro X0 ⟨k1, kb⟩
  have hgl := HG.out.lt
  generalize hB : w.heap.size = B at k1 kb hb hgl ⊢
  have HB := Lib.hid hB
  have Q1 := Lib.hid k1
  have QB := Lib.hid kb
  have hbl : b < X0.heap.size := by have := k1.lt; omega
  have QR := Lib.hid (HR.out.below kb (by rw [hB]; exact Nat.le_refl _))
  have QT := Lib.hid (HT.out.below kb (by rw [hB]; exact Nat.le_refl _))
  have QU := Lib.hid (HU.out.below kb (by rw [hB]; exact Nat.le_refl _))
  have QG := Lib.hid (HG.out.below kb hgl)
  clear k1 kb HR HT HU HG
  go_wp2_with fail
  refine (C.out _ hbl QR.out).mono ?_
  rintro e X ⟨h, c', rfl, hc0, hbX⟩
  have HX1 := Lib.hid (Q1.out.below hbX Q1.out.lt)
  have HXT := Lib.hid (QT.out.below hbX (Nat.le_refl _))
  have HXU := Lib.hid (QU.out.below hbX (Nat.le_refl _))
  have HXG := Lib.hid (Rd.of_whole (QG.out.below hbX QG.out.lt))
  have HXB := Lib.hid (QB.out.trans (hbX.mono (Nat.le_of_lt Q1.out.lt)))
  have hhl : h < X.heap.size := by
    rcases Nat.lt_or_ge h X.heap.size with k | k
    · exact k
    · simp [World.cell?, Array.getElem?_eq_none k] at hc0
  have HF0 := Lib.hid (fun (Y : World) (hw : Below X.heap.size X Y) => (hw.cell (p := ⟨h, 0, none⟩) hhl).trans hc0)
  have HM0 := Lib.hid (fun (Y : World) (hw : Below X.heap.size X Y) => ((HX1.out.below hw HX1.out.lt).cell 0))
  have HM1 := Lib.hid (fun (Y : World) (hw : Below X.heap.size X Y) => ((HX1.out.below hw HX1.out.lt).cell 1))
  have HM2 := Lib.hid (fun (Y : World) (hw : Below X.heap.size X Y) => ((HX1.out.below hw HX1.out.lt).cell 2))
  clear hc0 hbX Q1 QB QR QT QU QG C
  have i1 : (8 : Int) ≤ (M : Int) + 8 := by omega
  have i2 : (8 : Int) ≤ (N : Int) + 8 := by omega
  have i3 : (N : Int) + 8 ≤ (M : Int) + 8 := by omega
  have i4 : (N : Int) ≤ (M : Int) := by omega
  have i5 : ¬ M = 0 := by omega
  go_upto_region 4 with fail
  refine region_drew (fun Y => Below X.heap.size X Y) (by kernel_rfl) (below_drewN (Below.refl _ _) 1) ?_
  intro hS
  refine take 0 _ rfl (by kernel_rfl) (by kernel_rfl) (by kernel_rfl) (fun _ _ _ h => h) (by rfl) hS (by intro w _; go_simp; with_reducible rfl) ?_
  try simp only [Act.put, List.setIfInBounds_toArray, List.set_cons_zero, List.set_cons_succ]
  refine take 1 _ rfl (by kernel_rfl) (by kernel_rfl) (by kernel_rfl) (fun _ _ _ h => h) (by rfl) hS (by intro w hw; have hcl := HM0.out w hw; go_simp; with_reducible rfl) ?_
  try simp only [Act.put, List.setIfInBounds_toArray, List.set_cons_zero, List.set_cons_succ]
  refine take 2 _ rfl (by kernel_rfl) (by kernel_rfl) (by kernel_rfl) (fun _ _ _ h => h) (by rfl) hS (by intro w _; go_simp; with_reducible rfl) ?_
  try simp only [Act.put, List.setIfInBounds_toArray, List.set_cons_zero, List.set_cons_succ]
  refine take 3 _ rfl (by kernel_rfl) (by kernel_rfl) (by kernel_rfl) (fun _ _ _ h => h) (by rfl) hS (by intro w _; go_simp; with_reducible rfl) ?_
  try simp only [Act.put, List.setIfInBounds_toArray, List.set_cons_zero, List.set_cons_succ]
  refine take 4 _ rfl (by kernel_rfl) (by kernel_rfl) (by kernel_rfl) (fun _ _ _ h => h) (by rfl) hS (by intro w hw; have hcl := HF0.out w hw; go_simp; with_reducible rfl) ?_
  try simp only [Act.put, List.setIfInBounds_toArray, List.set_cons_zero, List.set_cons_succ]
  refine take 5 _ rfl (by kernel_rfl) (by kernel_rfl) (by kernel_rfl) (fun _ _ _ h => h) (by rfl) hS (by intro w _; go_simp; with_reducible rfl) ?_
  try simp only [Act.put, List.setIfInBounds_toArray, List.set_cons_zero, List.set_cons_succ]
  refine take 6 _ rfl (by kernel_rfl) (by kernel_rfl) (by kernel_rfl) (fun _ _ _ h => h) (by rfl) hS (by intro w _; go_simp; with_reducible rfl) ?_
  try simp only [Act.put, List.setIfInBounds_toArray, List.set_cons_zero, List.set_cons_succ]
  refine take 7 _ rfl (by kernel_rfl) (by kernel_rfl) (by kernel_rfl) (fun _ _ _ h => h) (by rfl) hS (by intro w _; go_simp; with_reducible rfl) ?_
  try simp only [Act.put, List.setIfInBounds_toArray, List.set_cons_zero, List.set_cons_succ]
  refine take 8 _ rfl (by kernel_rfl) (by kernel_rfl) (by kernel_rfl) (fun _ _ _ h => h) (by rfl) hS (by intro w hw; have hcl := HM1.out w hw; go_simp; with_reducible rfl) ?_
  try simp only [Act.put, List.setIfInBounds_toArray, List.set_cons_zero, List.set_cons_succ]
  refine take 9 _ rfl (by kernel_rfl) (by kernel_rfl) (by kernel_rfl) (fun _ _ _ h => h) (by rfl) hS (by intro w _; go_simp; with_reducible rfl) ?_
  try simp only [Act.put, List.setIfInBounds_toArray, List.set_cons_zero, List.set_cons_succ]
  refine take 10 _ rfl (by kernel_rfl) (by kernel_rfl) (by kernel_rfl) (fun _ _ _ h => h) (by rfl) hS (by intro w _; go_simp; with_reducible rfl) ?_
  try simp only [Act.put, List.setIfInBounds_toArray, List.set_cons_zero, List.set_cons_succ]
  refine take_call 11 (.int .u64 (y : Nat)) 64 (#[.slice (some ⟨b, off + 8, none⟩) 8 (M + 8 : Nat)]) rfl (by kernel_rfl) (by kernel_rfl) (by kernel_rfl) (fun _ _ _ h => h) (by rfl) hS (by intro w; go_simp; try with_reducible rfl) (fun w hw => HLE.out ⟨b, off + 8, none⟩ w (HXT.out.below hw (Nat.le_refl _))) ?_
  try simp only [Act.put, List.setIfInBounds_toArray, List.set_cons_zero, List.set_cons_succ]
  refine take 12 _ rfl (by kernel_rfl) (by kernel_rfl) (by kernel_rfl) (fun _ _ _ h => h) (by rfl) hS (by intro w _; go_simp; with_reducible rfl) ?_
  try simp only [Act.put, List.setIfInBounds_toArray, List.set_cons_zero, List.set_cons_succ]
  refine take 13 _ rfl (by kernel_rfl) (by kernel_rfl) (by kernel_rfl) (fun _ _ _ h => h) (by rfl) hS (by intro w _; go_simp; with_reducible rfl) ?_
  try simp only [Act.put, List.setIfInBounds_toArray, List.set_cons_zero, List.set_cons_succ]
  refine take 14 _ rfl (by kernel_rfl) (by kernel_rfl) (by kernel_rfl) (fun _ _ _ h => h) (by rfl) hS (by intro w _; go_simp; with_reducible rfl) ?_
  try simp only [Act.put, List.setIfInBounds_toArray, List.set_cons_zero, List.set_cons_succ]
  refine take 15 _ rfl (by kernel_rfl) (by kernel_rfl) (by kernel_rfl) (fun _ _ _ h => h) (by rfl) hS (by intro w _; go_simp; with_reducible rfl) ?_
  try simp only [Act.put, List.setIfInBounds_toArray, List.set_cons_zero, List.set_cons_succ]
  refine take 16 _ rfl (by kernel_rfl) (by kernel_rfl) (by kernel_rfl) (fun _ _ _ h => h) (by rfl) hS (by intro w hw; have hcl := HM2.out w hw; go_simp; with_reducible rfl) ?_
  try simp only [Act.put, List.setIfInBounds_toArray, List.set_cons_zero, List.set_cons_succ]
  refine take 17 _ rfl (by kernel_rfl) (by kernel_rfl) (by kernel_rfl) (fun _ _ _ h => h) (by rfl) hS (fun w hw => run_string_op 36 9 5 _ rfl rfl Try.underlying36 Try.underlying5 Try.underlying9 (HXG.out.below hw (Nat.le_refl _))) ?_
  try simp only [Act.put, List.setIfInBounds_toArray, List.set_cons_zero, List.set_cons_succ]
  refine take 18 _ rfl (by kernel_rfl) (by kernel_rfl) (by kernel_rfl) (fun _ _ _ h => h) (by rfl) hS (by intro w _; go_simp; with_reducible rfl) ?_
  try simp only [Act.put, List.setIfInBounds_toArray, List.set_cons_zero, List.set_cons_succ]
  refine take 19 _ rfl (by kernel_rfl) (by kernel_rfl) (by kernel_rfl) (fun _ _ _ h => h) (by rfl) hS (by intro w _; go_simp; with_reducible rfl) ?_
  try simp only [Act.put, List.setIfInBounds_toArray, List.set_cons_zero, List.set_cons_succ]
  refine take 20 _ rfl (by kernel_rfl) (by kernel_rfl) (by kernel_rfl) (fun _ _ _ h => h) (by rfl) hS (fun w hw => run_string_op 36 9 5 _ rfl rfl Try.underlying36 Try.underlying5 Try.underlying9 (HXU.out.below hw (Nat.le_refl _))) ?_
  try simp only [Act.put, List.setIfInBounds_toArray, List.set_cons_zero, List.set_cons_succ]
  refine take 21 _ rfl (by kernel_rfl) (by kernel_rfl) (by kernel_rfl) (fun _ _ _ h => h) (by rfl) hS (by intro w _; go_simp; with_reducible rfl) ?_
  try simp only [Act.put, List.setIfInBounds_toArray, List.set_cons_zero, List.set_cons_succ]
  refine take 22 _ rfl (by kernel_rfl) (by kernel_rfl) (by kernel_rfl) (fun _ _ _ h => h) (by rfl) hS (by intro w _; go_simp; with_reducible rfl) ?_
  try simp only [Act.put, List.setIfInBounds_toArray, List.set_cons_zero, List.set_cons_succ]
  refine take 23 _ rfl (by kernel_rfl) (by kernel_rfl) (by kernel_rfl) (fun _ _ _ h => h) (by rfl) hS (by intro w _; go_simp; with_reducible rfl) ?_
  try simp only [Act.put, List.setIfInBounds_toArray, List.set_cons_zero, List.set_cons_succ]
  refine region_end (by kernel_rfl) ?_
  have HBE := Lib.hid (HXB.out.trans (hS.mono (Nat.le_of_lt HX1.out.lt)))
  clear hS
  go_wp2_with fail
  go_ret
  exact ⟨rfl, by rw [HB.out]; exact HBE.out⟩

end RefW
end Go.Proofs.Ytfbkppabgogdgaa
