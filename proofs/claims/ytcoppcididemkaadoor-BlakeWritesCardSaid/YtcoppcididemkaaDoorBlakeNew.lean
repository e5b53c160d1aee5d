/- The call New of package blake. -/
import Derived.Test.YtcoppcididemkaaDoorBlakeBytes
import Derived.Test.YtcoppcididemkaaDoorCatB
namespace Go.Proofs.YtcoppcididemkaaDoor
namespace Blake
open Go.ChangeShapes Go.WideShapes Go.ChangeAt Go.RowKit
open Num Mem Words State Chacha Quiet

theorem wpList_copy {P : Program} {ops : Array Oper} {rest : List Oper} {o : Oper} {a : Act} {w : World} {Q : Exit → Act → World → Prop} (hgd : o.guard = none) (d s : Operand) (dT sT : TypeId)
    (ho : o.op = .call { callee := .builtin .copy, args := #[d, s], argTypes := #[dT, sT] }) (elem : TypeId) (hu : P.underlying dT = some (.slice elem)) (hsz : (P.info? elem).map (·.size) = some 1)
    (g off dLen dCap : Nat) (ad : Addr) (sLen sCap : Nat) (hd : a.eval d = .slice (some ⟨g, off, none⟩) dLen dCap) (hs : a.eval s = .slice (some ad) sLen sCap)
    (cur : List Value) (t : TypeId) (hg : w.heap[g]? = some (.cells cur.toArray t (0, 0))) (cs : List Value) (hn : cs.length = Nat.min sLen dLen)
    (hsrc : ∀ j v, cs[j]? = some v → w.cell? (ad.add j) = some v)
    (hfit : off + cs.length ≤ cur.length) (h1 : ∀ v ∈ cs, v.oneCell' = true)
    (h : ∀ w', Hid (w'.heap[g]? = some (.cells (splice cur off cs).toArray t (0, 0))) → w.grownBy w' (some g) → wpList P ops Q rest (a.put o.dst (goInt cs.length)) w') : wpList P ops Q (o :: rest) a w :=
  wpList_step fun _ hK => step_copy_grown hgd d s dT sT ho elem hu hsz g off dLen dCap ad sLen sCap hd hs cur t hg cs hn hsrc hfit h1 fun w' h2 h3 => hK _ _ (h w' h2 h3)

/-- the mark of sizes in the first number -/
theorem sizes_xor (k size : Nat) (hk : k ≤ 32) (hs : size ≤ 32) : 16842752 ^^^ (256 * k) ^^^ size = 16842752 + 256 * k + size :=
  (show ∀ k, k < 33 → ∀ s, s < 33 → 16842752 ^^^ (256 * k) ^^^ s = 16842752 + 256 * k + s by decide +kernel) k (by omega) size (by omega)

theorem hash_built (size : Nat) : Tryd.prog.built 41 [(0, .int .i64 size)] = some (hashCells size (List.replicate 8 0) (fun _ => 0) 0 0).toArray := by kernel_rfl
theorem hash_count75 {S : List Nat} (h : S.length = 8) (size : Nat) (b : Nat → Nat) (filled count : Nat) : (hashCells size S b filled count).toArray.size = 75 := by rw [List.size_toArray, hashCells_length h]

/-- a hash of the text t, N bytes so far -/
def HashOf (w : World) (g size : Nat) (S0 : List Nat) (t : Nat → Nat) (N : Nat) : Prop :=
  HashAt w g size (blocks S0 t (ahead N)) (fun i => if i < N - 64 * ahead N then t (64 * ahead N + i) else 0) (N - 64 * ahead N) N

def fill8 (k : Nat) : List Nat := (List.range 8).map fun i => if i < k then eight.getD i 0 else 0
theorem fill8_length (k : Nat) : (fill8 k).length = 8 := by simp [fill8]
theorem fill8_none : fill8 0 = List.replicate 8 0 := by decide
theorem fill8_all : fill8 8 = eight := by decide
theorem fill8_set (k : Nat) (h : k < 8) : (fill8 k).set k (eight.getD k 0) = fill8 (k + 1) :=
  (show ∀ k, k < 8 → (fill8 k).set k (eight.getD k 0) = fill8 (k + 1) by decide +kernel) k h

set_option maxRecDepth 100000 in
theorem new_no (size : Int) (A : Option Addr) (k c : Nat) (h : ¬ (1 ≤ size ∧ size ≤ 32 ∧ k ≤ 32)) (w : World) : Calls Tryd.prog 5 #[.int .i64 size, .slice A k c] w fun e w' => e = .returned (.tuple #[.pointer none, .int .i64 1]) ∧ w = w' := by
  by_cases h1 : 1 ≤ size
  · have d1 : decide (size < 1) = false := decide_eq_false (by omega)
    by_cases h2 : size ≤ 32
    · have d2 : decide (32 < size) = false := decide_eq_false (by omega)
      have h3 : 32 < k := by omega
      have d3 : decide ((32 : Int) < (k : Int)) = true := decide_eq_true (by omega)
      clear h h1 h2 h3
      go_enter Tryd.func5, Tryd.ntmps5
      go_wp2_with fail
      go_ret2
      exact ⟨rfl, rfl⟩
    · have d2 : decide (32 < size) = true := decide_eq_true (by omega)
      clear h h1 h2
      go_enter Tryd.func5, Tryd.ntmps5
      go_wp2_with fail
      go_ret2
      exact ⟨rfl, rfl⟩
  · have d1 : decide (size < 1) = true := decide_eq_true (by omega)
    clear h h1
    go_enter Tryd.func5, Tryd.ntmps5
    go_wp2_with fail
    go_ret2
    exact ⟨rfl, rfl⟩

/-- the world while a hash is made -/
structure NewW (w : World) (g size : Nat) (S : List Nat) (X : World) : Prop where
  hash : HashAt X g size S (fun _ => 0) 0 0
  laid : Laid X
  bel : Below g w X
theorem NewW.put {w : World} {g size : Nat} {S : List Nat} {X : World} (h : NewW w g size S X) (hS : S.length = 8) (hg : 2 ≤ g) (i v : Nat) (hi : i < 8) : NewW w g size (S.set i v) (X.setCell ⟨g, 1 + i, none⟩ (.int .u32 (v : Nat))) := by
  have k : X.grownBy (X.setCell ⟨g, 1 + i, none⟩ (.int .u32 (v : Nat))) (some g) := grown_set X g (1 + i) _
  exact ⟨h.hash.set_sum hS i v hi, laid_of h.laid hg k, below_grown h.bel k (Nat.le_refl _) (Nat.le_of_lt h.hash.lt)⟩
theorem NewW.drew {w : World} {g size : Nat} {S : List Nat} {X : World} (h : NewW w g size S X) (k : Nat) : NewW w g size S (X.drewN k) :=
  ⟨h.hash, ⟨h.laid.eight, h.laid.orders, h.laid.size⟩, below_drewN h.bel k⟩

set_option maxRecDepth 100000 in
set_option maxHeartbeats 4000000 in
theorem new_at (size : Nat) (A : Option Addr) (k c : Nat) (key : Nat → Nat) (hs1 : 1 ≤ size) (hs2 : size ≤ 32) (hk : k ≤ 32) (w : World) (hL : Laid w) (hA : Rd w A k key) :
    Calls Tryd.prog 5 #[.int .i64 size, .slice A k c] w fun e w' => e = .returned (.tuple #[.pointer (some ⟨w.heap.size, 0, none⟩), .int .i64 0]) ∧ HashAt w' w.heap.size size (firstL size k) (if k = 0 then fun _ => 0 else upTo key k) (keyLen k) (keyLen k) ∧ Below w.heap.size w w' := by
  have d1 : decide ((size : Int) < 1) = false := decide_eq_false (by omega)
  have d2 : decide ((32 : Int) < (size : Int)) = false := decide_eq_false (by omega)
  have d3 : decide ((32 : Int) < (k : Int)) = false := decide_eq_false (by omega)
  have hg2 := hL.size
  have HL := Lib.hid hL
  have HA := Lib.hid hA
  have HK := Lib.hid hk
  have HFi := Lib.hid (show firstL size k = eight.set 0 (1779033703 ^^^ (16842752 + 256 * k + size)) from rfl)
  have HZ := Lib.hid (hash_count75 (show (List.replicate 8 0).length = 8 from rfl) size (fun _ => 0) 0 0)
  have HBT := Lib.hid (hash_built size)
  have HI := Lib.hid (show HashAt (w.alloc (.cells (hashCells size (List.replicate 8 0) (fun _ => 0) 0 0).toArray 41)) w.heap.size size (fill8 0) (fun _ => 0) 0 0 from by
    rw [fill8_none]
    exact Whole.new _ _ _)
  clear hL hA
  generalize firstL size k = F at HFi ⊢
  go_enter Tryd.func5, Tryd.ntmps5
  generalize (hashCells size (List.replicate 8 0) (fun _ => 0) 0 0).toArray = zs at HZ HBT HI
  go_wp2_with (refine wpList_built1 rfl 41 0 (.tmp 19) rfl (.int .i64 size) rfl zs HBT.out ?_)
  refine cut_world (fun W => NewW w w.heap.size size (fill8 0) W) ⟨HI.out, laid_alloc HL.out _, below_alloc (Below.refl _ _) _⟩ ?_
  rintro W hr
  have HR := Lib.hid hr
  clear hr HI HZ HBT
  generalize hB : w.heap.size = B at HR hg2 ⊢
  go_loopw [22] (fun i wr => ∃ j : Nat, j ≤ 8 ∧ i = .int .i64 j ∧ NewW w B size (fill8 j) wr) (fun i _ => 8 - (intOf i).toNat)
  case atStart => exact ⟨0, by omega, rfl, HR.out⟩
  case round =>
    obtain ⟨j, hj, rfl, hr⟩ := hrel
    by_cases hlt : j < 8
    · clear HR
      have hji : (j : Int) < 8 := by omega
      have c1 := hr.laid.eight j hlt
      have c2 := hr.hash.cell_sum (fill8_length j) j hlt
      have f1 := hr.hash.free (1 + j)
      have K1 := Lib.hid ((hr.put (fill8_length j) hg2 j (eight.getD j 0) hlt).drew 1)
      rw [fill8_set j hlt] at K1
      clear hr
      generalize eight.getD j 0 = z at c1 K1
      go_wp2_with fail
      refine wp_region_still_tail 8 (by kernel_rfl) (by kernel_rfl) ?_
      simp only [List.take_succ_cons, List.take_zero, List.drop_succ_cons, List.drop_zero]
      repeat still_step
      refine wpStill_nil ?_
      change wpList _ _ _ _ _ wr.drew
      go_upto_region 8 with fail
      refine cut_world (fun X => NewW w B size (fill8 (j + 1)) X) K1.out ?_
      clear K1 c1 c2 f1
      rintro w2 hr2
      have HR2 := Lib.hid hr2
      clear hr2
      have wk := wrap_small ((j : Int) + 1) (j + 1) (by omega) (by omega)
      go_wp2_with fail
      exact ⟨⟨j + 1, by omega, by simp, HR2.out⟩, by simp [intOf]; omega⟩
    · obtain rfl : j = 8 := by omega
      clear HR hlt hj
      rw [fill8_all] at hr
      have c1 := hr.hash.cell_sum (show eight.length = 8 from rfl) 0 (by omega)
      have f1 := hr.hash.free 1
      have K1 := Lib.hid ((hr.put (show eight.length = 8 from rfl) hg2 0 (1779033703 ^^^ (16842752 + 256 * k + size)) (by omega)).drew 1)
      rw [← HFi.out] at K1
      have X00 := Lib.hid (show IntKind.i64.wrap ((256 : Int) * (k : Int)) = ((256 * k : Nat) : Int) from by
        rw [IntKind.wrap_i64]
        omega)
      have X0 := Lib.hid (show IntKind.u32.wrap ((256 * k : Nat) : Int) = ((256 * k : Nat) : Int) from by
        show (((256 * k : Nat) : Int) % 4294967296) = _
        omega)
      have X1 := Lib.hid (show bits .xor .u32 (16842752 : Int) ((256 * k : Nat) : Int) = ((16842752 ^^^ (256 * k) : Nat) : Int) from u32_xor_nat 16842752 (256 * k) (by omega) (by omega))
      have X2 := Lib.hid (show IntKind.u32.wrap (size : Int) = (size : Int) from by
        show ((size : Int) % 4294967296) = _
        omega)
      have X3 := Lib.hid (u32_xor_nat (16842752 ^^^ (256 * k)) size (Nat.xor_lt_two_pow (n := 32) (by omega) (by omega)) (by omega))
      rw [sizes_xor k size hk hs2] at X3
      have X4 := Lib.hid (show bits .xor .u32 (1779033703 : Int) ((16842752 + 256 * k + size : Nat) : Int) = ((1779033703 ^^^ (16842752 + 256 * k + size) : Nat) : Int) from u32_xor_nat 1779033703 (16842752 + 256 * k + size) (by omega) (by omega))
      clear hr
      rw [show eight.getD 0 0 = 1779033703 from rfl] at c1
      have hnl : ¬ ((8 : Nat) : Int) < 8 := by omega
      go_wp2_with fail
      refine wp_region_still_tail 17 (by kernel_rfl) (by kernel_rfl) ?_
      simp only [List.take_succ_cons, List.take_zero, List.drop_succ_cons, List.drop_zero]
      repeat still_step
      refine wpStill_nil ?_
      change wpList _ _ _ _ _ wr.drew
      rw [X00.out, X0.out, X1.out, X2.out, X3.out, X4.out]
      generalize 1779033703 ^^^ (16842752 + 256 * k + size) = z at K1 ⊢
      clear X00 X0 X1 X2 X3 X4
      go_upto_region 10 with fail
      refine cut_world (fun X => NewW w B size F X) K1.out ?_
      clear K1 c1 f1
      rintro w2 hr
      have HLF := Lib.hid (show F.length = 8 by rw [HFi.out]; simp [eight])
      by_cases h0 : k = 0
      · have HR := Lib.hid hr
        subst h0
        clear hr hnl
        go_wp2_with fail
        go_ret2
        exact ⟨rfl, HR.out.hash, HR.out.bel⟩
      · obtain ⟨ab, ao, rfl, hab, hcc⟩ : ∃ b off, A = some ⟨b, off, none⟩ ∧ b < w.heap.size ∧ ∀ i, i < k → w.cell? ⟨b, off + i, none⟩ = some (.int .u8 (key i : Nat)) := by
          rcases HA.out with h | h
          · exact absurd h h0
          · exact h
        have hk0 : (0 : Int) < (k : Int) := by omega
        have HSRC := Lib.hid (rd_src (w := w2) (b := ab) (off := ao) (n := k) (f := key) (fun i hi => by
          rw [← hcc i hi]
          exact hr.bel.cell (p := ⟨ab, ao + i, none⟩) (by rw [← hB]; exact hab)))
        have HH := Lib.hid hr.hash
        have HLD := Lib.hid hr.laid
        have HBL := Lib.hid hr.bel
        have hbl2 := hr.hash.lt
        clear hr hcc hnl
        go_upto_region 12 with (refine wpList_copy rfl (.tmp 57) (.tmp 58) 22 22 rfl 5 rfl (by kernel_rfl) B 9 64 64 ⟨ab, ao, none⟩ k c rfl rfl (hashCells size F (fun _ => 0) 0 0) 41 HH.out (byteCells key k) (by rw [byteCells_length]; exact (Nat.min_eq_left (by omega)).symm) HSRC.out (by rw [byteCells_length, hashCells_length HLF.out]; omega) (bytes_each _ _) ?_; intro w8 hg8 hb8)
        have q := hg8.out
        rw [hash_splice HLF.out size (fun _ => 0) 0 0 0 k key (by omega)] at q
        have Q := Lib.hid (show HashAt w8 B size F (upTo key k) 0 0 from HashAt.congr (b := fun i => if 0 ≤ i ∧ i < 0 + k then key (i - 0) else 0) q fun i hi => by
          unfold upTo
          by_cases l : i < k
          · rw [if_pos l, if_pos ⟨by omega, by omega⟩, Nat.sub_zero]
          · rw [if_neg l, if_neg (by omega)])
        have QB := Lib.hid (below_grown HBL.out hb8 (Nat.le_refl _) (Nat.le_of_lt hbl2))
        clear hg8 hb8 q HH HBL HSRC HLD
        have c73 := Q.out.cell_filled HLF.out
        have f73 := Q.out.free 73
        have Q1 := Lib.hid (Q.out.set_filled HLF.out 64)
        have c74 := Q.out.cell_count HLF.out
        have f74 := Q.out.free 74
        have Q2 := Lib.hid (Q1.out.set_count HLF.out 64)
        have hb1 := grown_trans (grown_set w8 B 73 (.int .i64 (64 : Nat))) (grown_set _ B 74 (.int .u64 (64 : Nat)))
        have QB2 := Lib.hid (below_grown QB.out hb1 (Nat.le_refl _) (Nat.le_of_lt Q.out.lt))
        clear Q Q1 QB hb1
        go_wp2_with fail
        go_ret2
        exact ⟨rfl, by rw [show keyLen k = 64 from if_neg h0]; exact Q2.out, QB2.out⟩

theorem new_any (size : Nat) (A : Option Addr) (k c : Nat) (key f : Nat → Nat) (hs1 : 1 ≤ size) (hs2 : size ≤ 32) (hk : k ≤ 32) (w : World) (hL : Laid w) (hA : Rd w A k key) :
    Calls Tryd.prog 5 #[.int .i64 size, .slice A k c] w fun e w' => e = .returned (.tuple #[.pointer (some ⟨w.heap.size, 0, none⟩), .int .i64 0]) ∧ HashOf w' w.heap.size size (firstL size k) (withKey key k f) (keyLen k) ∧ Below w.heap.size w w' := by
  refine (new_at size A k c key hs1 hs2 hk w hL hA).mono ?_
  rintro e w' ⟨rfl, h, hb⟩
  refine ⟨rfl, ?_, hb⟩
  unfold HashOf
  have ha : ahead (keyLen k) = 0 := by
    unfold ahead keyLen
    split <;> rfl
  rw [ha, Nat.mul_zero, Nat.sub_zero]
  refine HashAt.congr h fun i hi => ?_
  by_cases e : k = 0
  · rw [if_pos e, show keyLen k = 0 from if_pos e, if_neg (by omega)]
  · rw [if_neg e, show keyLen k = 64 from if_neg e, if_pos hi, Nat.zero_add]
    unfold withKey
    rw [if_neg e, if_pos hi]

end Blake
end Go.Proofs.YtcoppcididemkaaDoor
