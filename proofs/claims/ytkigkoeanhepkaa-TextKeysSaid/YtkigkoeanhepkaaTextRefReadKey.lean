/- The document's own ReadKey. -/
import Derived.Test.YtkigkoeanhepkaaTextReadKey
namespace Go.Proofs.Ytkigkoeanhepkaa
namespace Text
open Go.ChangeShapes Go.WideShapes Go.ChangeAt Go.RowKit
open Num Mem Words Chacha Aead Quiet

theorem byte_info : (Try.prog.info? 5).map (fun i => (i.zero, i.size, i.bytes)) = some (some (.int .u8 0), 1, 1) := by kernel_rfl

/-- 'append(out, x, y, ..)' of bytes that have just been laid -/
theorem wpList_push {ops : Array Oper} {rest : List Oper} {o : Oper} {a : Act} {Q : Exit → Act → World → Prop} {W w : World} {B k c m : Nat} {A : Option Addr} {f g T : Nat → Nat} {cs : Array Value} (hgd : o.guard = none) (s x : Operand)
    (ho : o.op = .call { callee := .builtin .append, args := #[s, x], argTypes := #[28, 28] })
    (hs : a.eval s = .slice A k c) (hx : a.eval x = .slice (some ⟨w.heap.size, 0, none⟩) m m) (hcs : cs = (byteCells g m).toArray)
    (own : Own w B 5 A k c f) (bel : Below B W w) (hB : B ≤ w.heap.size) (hk : k + m ≤ 1000000) (hT : ∀ i, i < k + m → T i = if i < k then f i else g (i - k))
    (h : ∀ A' c' w', Own w' B 5 A' (k + m) c' T → Below B W w' → B ≤ w'.heap.size → wpList Try.prog ops Q rest (a.put o.dst (.slice A' (k + m) c')) w') :
    wpList Try.prog ops Q (o :: rest) a (w.alloc (.cells cs 5)) :=
  wpList_catFrom (T := T) hgd s x 28 5 (.int .u8 0) 1 rfl byte_info rfl ho hs (own.alloc _) (below_alloc' bel hB _) (by simp; omega) m m _ hx
    (.inr ⟨_, rfl, rd_src (fun i hi => by
      have hw : Whole (w.alloc (.cells cs 5)) w.heap.size 5 (byteCells g m).toArray := by rw [← hcs]; exact Whole.new _ _ _
      exact hw.bytes i hi)⟩) (by omega) (by omega) hT fun A' c' w' h1 h2 h3 _ _ => h A' c' w' h1 h2 h3

theorem rd_congr {w : World} {A : Option Addr} {n : Nat} {f g : Nat → Nat} (h : Rd w A n f) (e : ∀ i, i < n → f i = g i) : Rd w A n g := by
  rcases h with h | ⟨b, off, h1, h2, h3⟩
  · exact .inl h
  · exact .inr ⟨b, off, h1, h2, fun i hi => by rw [← e i hi]; exact h3 i hi⟩
theorem owns_le {w : World} {B t k c : Nat} {A : Option Addr} {f : Nat → Nat} (h : Own w B t A k c f) : k ≤ c := by
  rcases h.2 with ⟨e, e0⟩ | ⟨g, cap, cur, e, _, _, hl, _⟩
  · injection e with _ _ e3
    omega
  · injection e with _ _ e3
    omega
/-- the text with an A behind it -/
theorem cat_size (s : ByteArray) (h : s.size = 44) : (s.extract 0 43 ++ { data := #[65] }).size = 44 := by
  simp [ByteArray.size_append, h]
  rfl
theorem cat_chr (s : ByteArray) (h : s.size = 44) (i : Nat) (hi : i < 44) : chr (s.extract 0 43 ++ { data := #[65] }) i = if i < 43 then chr s i else 65 := by
  have hl : (s.extract 0 43).data.toList.length = 43 := by
    rw [Array.length_toList]
    show (s.extract 0 43).size = 43
    rw [ByteArray.size_extract]
    omega
  have hx : (s.extract 0 43).data.toList = s.data.toList.take 43 := by
    rw [ByteArray.data_extract, Array.toList_extract]
    simp [List.extract]
  unfold chr
  rw [ByteArray.data_append]
  simp only [Array.toList_append, List.getD_eq_getElem?_getD]
  by_cases h1 : i < 43
  · rw [if_pos h1, List.getElem?_append_left (by omega), hx, List.getElem?_take_of_lt h1]
  · obtain rfl : i = 43 := by omega
    rw [if_neg h1, List.getElem?_append_right (by omega), hl]
    rfl

theorem three_cells (G : Nat) (h : G < 16777216) : #[Value.int .u8 ((G : Int) / 65536), .int .u8 ((G : Int) / 256 % 256), .int .u8 ((G : Int) % 256)] = (byteCells (fun i => byteAt G (2 - i)) 3).toArray := by
  show _ = #[Value.int .u8 ((byteAt G 2 : Nat) : Int), .int .u8 ((byteAt G 1 : Nat) : Int), .int .u8 ((byteAt G 0 : Nat) : Int)]
  unfold byteAt
  have h1 : ((G : Int) / 65536) = ((G / 2 ^ (8 * 2) % 256 : Nat) : Int) := by omega
  have h2 : ((G : Int) / 256 % 256) = ((G / 2 ^ (8 * 1) % 256 : Nat) : Int) := by omega
  have h3 : ((G : Int) % 256) = ((G / 2 ^ (8 * 0) % 256 : Nat) : Int) := by omega
  rw [h1, h2, h3]
theorem vI_yes {c : Nat} (h : sv c < 64) : vI c = ((sv c : Nat) : Int) := by unfold vI; rw [if_pos h]
theorem vI_no {c : Nat} (h : ¬ sv c < 64) : vI c = -1 := by unfold vI; rw [if_neg h]
theorem rd_zero {w w' : World} {B : Nat} {t : TypeId} (h : Whole w B t (byteCells (fun _ => 0) 32).toArray) {s : ByteArray} (hb : byteCells (rkB s) 32 = byteCells (fun _ => 0) 32) (hw : w' = w) : Rd w' (some ⟨B, 0, none⟩) 32 (rkB s) := by
  subst hw
  rw [← hb] at h
  exact Rd.of_whole h
theorem group_sum (a b c d : Nat) : 262144 * (a : Int) + 4096 * (b : Int) + 64 * (c : Int) + (d : Int) = (((((a * 64 + b) * 64 + c) * 64 + d : Nat)) : Int) := by omega
theorem gTo_four (N : Nat → Nat) (k : Nat) : gTo N k 4 = (((N (4 * k) * 64 + N (4 * k + 1)) * 64 + N (4 * k + 2)) * 64 + N (4 * k + 3)) := by
  simp [gTo]

set_option maxRecDepth 100000 in
set_option maxHeartbeats 4000000 in
theorem refReadKey_any (s : ByteArray) (w : World) : Calls Try.prog 8 #[.string s] w fun e w' => (∃ A c, e = .returned (.tuple #[.slice A 32 c, .int .i64 (rkE s : Nat)]) ∧ Rd w' A 32 (rkB s)) ∧ Below w.heap.size w w' := by
  have HNO := Lib.hid (show ∀ c, rkE s = c → c ≠ 0 → byteCells (rkB s) 32 = byteCells (fun _ => 0) 32 ∧ rkE s = c from fun c h hc => rk_no h hc)
  obtain ⟨Z, hZ⟩ : ∃ Z, (byteCells (fun _ => 0) 32).toArray = Z := ⟨_, rfl⟩
  have hmk : (Instr.makeSlice 28 (.int .i64 32) (.int .i64 32)).run Try.prog w = .ok (.slice (some ⟨w.heap.size, 0, none⟩) 32 32) (w.alloc (.cells Z 5)) := by rw [← hZ]; exact made_bytes 32 (by decide) w
  have HZ := Lib.hid hZ
  clear hZ
  go_enter Try.func8, Try.ntmps8
  go_upto_region 2 with fail
  clear hmk
  refine cut_world (fun W => Whole W w.heap.size 5 (byteCells (fun _ => 0) 32).toArray ∧ Below w.heap.size w W) ⟨by rw [HZ.out]; exact Whole.new _ _ _, below_alloc (Below.refl _ _) _⟩ ?_
  rintro W ⟨k1, kb⟩
  have K1 := Lib.hid k1
  have KB := Lib.hid kb
  clear k1 kb HZ
  generalize hB : w.heap.size = B at K1 KB ⊢
  have hBW : B < W.heap.size := K1.out.lt
  by_cases h1 : s.size = 44
  · have d1 : (((s.size : Nat) : Int) == 44) = true := beq_iff_eq.2 (by omega)
    go_wp2_with fail
    go_loopw [5] (fun i wr => ∃ k : Nat, k ≤ 43 ∧ i = .int .i64 k ∧ sgTo s k = true ∧ wr = W)
      (fun i _ => 43 - (intOf i).toNat)
    case atStart => exact ⟨0, Nat.zero_le _, rfl, rfl, rfl⟩
    case round =>
      obtain ⟨k, hk, rfl, hsg, hw⟩ := hrel
      have hw' := hw.symm
      subst hw'
      clear hw
      have HSG := Lib.hid hsg
      clear hsg
      by_cases hlt : k < 43
      · have hT : (decide ((k : Int) < 43)) = true := decide_eq_true (by omega)
        have hkz : (k : Int) < (s.size : Int) := by omega
        have hkn : k < s.size := by omega
        have C := value_any (s[k].toNat) (by have := s[k].toNat_lt; omega) W
        have hcv := Mem.chr_get s k hkn
        rw [hcv] at C
        by_cases hv : sv (chr s k) < 64
        · have HV := Lib.hid hv
          rw [vI_yes hv] at C
          obtain ⟨V, hV⟩ : ∃ V, sv (chr s k) = V := ⟨_, rfl⟩
          rw [hV] at C
          rw [← hcv] at C
          have HC := Lib.hid C
          have d3 : decide ((V : Int) < 0) = false := decide_eq_false (by omega)
          clear hV hv hcv C
          go_wp2_with fail
          refine HC.out.mono ?_
          rintro e w' ⟨rfl, rfl⟩
          go_wp2_with fail
          refine ⟨⟨k + 1, by omega, rfl, sg_succ HSG.out HV.out, trivial⟩, ?_⟩
          show 43 - ((k : Int) + 1).toNat < 43 - (k : Int).toNat
          omega
        · have HE : Hid (rkE s = 11) := Lib.hid (by
            unfold rkE
            rw [if_neg (by omega)]
            by_cases h2 : chr s 43 ≠ 61
            · rw [if_pos h2]
            · rw [if_neg h2, if_pos (sg_no (by omega) hv)])
          rw [vI_no hv, ← hcv] at C
          have HC := Lib.hid C
          clear hv hcv C
          go_wp2_with fail
          refine HC.out.mono ?_
          rintro e w' ⟨rfl, rfl⟩
          go_wp2_with fail
          go_ret2
          exact ⟨⟨_, _, by rw [HE.out]; rfl, rd_zero K1.out (HNO.out _ HE.out (by decide)).1 rfl⟩, by rw [hB]; exact KB.out⟩
      · obtain rfl : k = 43 := by omega
        have i43 : (43 : Int) < (s.size : Int) := by omega
        have i42 : (42 : Int) < (s.size : Int) := by omega
        by_cases h2 : chr s 43 = 61
        · have hv42 := sg_at HSG.out (show 42 < 43 by omega)
          have hix : 43 < s.size := by omega
          have hix2 : 42 < s.size := by omega
          have c43 : ((s[43].toNat : Nat) : Int) = 61 := by rw [Mem.chr_get s 43 hix, h2]; rfl
          have d2 : (((s[43].toNat : Nat) : Int) == 61) = true := beq_iff_eq.2 c43
          have C := value_any (s[42].toNat) (by have := s[42].toNat_lt; omega) W
          have hcv := Mem.chr_get s 42 hix2
          rw [hcv, vI_yes hv42] at C
          obtain ⟨V, hV⟩ : ∃ V, sv (chr s 42) = V := ⟨_, rfl⟩
          rw [hV, ← hcv] at C
          have HC := Lib.hid C
          have HV := Lib.hid hV
          have hrem : (V : Int).tmod 4 = ((V % 4 : Nat) : Int) := by rw [Int.tmod_eq_emod_of_nonneg (Int.natCast_nonneg _)]; rfl
          clear hcv C hV hv42
          by_cases h4 : V % 4 = 0
          · rw [h4] at hrem
            have HE : Hid (rkE s = 0) := Lib.hid (by
              unfold rkE
              rw [if_neg (by omega), if_neg (by omega), if_neg (by rw [HSG.out]; decide), if_neg (by rw [HV.out]; omega)])
            go_wp2_with fail
            refine HC.out.mono ?_
            rintro e w' ⟨rfl, rfl⟩
            have hT0 := cat_size s h1
            have hTN : ∀ i, i < 44 → sv (chr (s.extract 0 43 ++ { data := #[65] }) i) = numsTo s 43 i ∧ numsTo s 43 i < 64 := by
              intro i hi
              refine ⟨?_, nums_lt _ _ _⟩
              rw [cat_chr s h1 i hi]
              unfold numsTo
              by_cases h : i < 43
              · rw [if_pos h, if_pos h, if_pos (sg_at HSG.out h)]
              · rw [if_neg h, if_neg h]
                rfl
            have HTN := Lib.hid hTN
            clear hTN
            go_upto_region 14 with fail
            generalize s.extract 0 43 ++ { data := #[65] } = T at HTN hT0 ⊢
            have CV : ∀ j (hj : j < T.size), ∀ w0, Calls Try.prog 20 #[.int .u8 ((T[j]'hj).toNat : Nat)] w0 fun e w1 => e = .returned (.int .i64 (numsTo s 43 j : Nat)) ∧ w1 = w0 := by
              intro j hj w0
              have h := value_any ((T[j]'hj).toNat) (by have := (T[j]'hj).toNat_lt; omega) w0
              rw [Mem.chr_get T j hj] at h ⊢
              rw [vI_yes (by rw [(HTN.out j (by omega)).1]; exact (HTN.out j (by omega)).2), (HTN.out j (by omega)).1] at h
              exact h
            have HCV := Lib.hid CV
            clear CV
            obtain ⟨N, hN⟩ : ∃ N, numsTo s 43 = N := ⟨_, rfl⟩
            have HN := Lib.hid (show ∀ i, N i < 64 from by rw [← hN]; exact nums_lt _ _)
            have HK := Lib.hid (show ∀ i, i < 32 → jB N i = rkB s i from by
              intro i _
              unfold rkB
              rw [if_pos HE.out, hN])
            rw [hN] at HCV
            clear HTN hN
            have HB0 := Lib.hid hB
            obtain ⟨H, hH⟩ : ∃ H, w'.heap.size = H := ⟨_, rfl⟩
            have HH := Lib.hid hH
            clear hB hH
            go_wp2_with fail
            go_loopw [7, 8, 9] (fun o i _ wr => ∃ (k p q : Nat) (A : Option Addr) (c : Nat), k ≤ 11 ∧ p = 4 * k ∧ q = 3 * k ∧ i = .int .i64 p ∧ o = .slice A q c ∧ Own wr H 5 A q c (jB N) ∧ Below H w' wr ∧ H ≤ wr.heap.size)
              (fun _ i _ _ => 44 - (intOf i).toNat)
            case atStart => exact ⟨0, 0, 0, none, 0, Nat.zero_le _, rfl, rfl, rfl, rfl, Own.nil _ _ _ _, Below.refl _ _, by rw [HH.out]; exact Nat.le_refl _⟩
            case round =>
              obtain ⟨k, p, q, A, c, hk, hp, hq, rfl, rfl, ho, hbl, hsz⟩ := hrel
              have HO := Lib.hid ho
              have HBL := Lib.hid hbl
              have HP := Lib.hid hp
              have HQ := Lib.hid hq
              clear ho hbl
              by_cases hlt : k < 11
              · have hT1 : (decide ((p : Int) < 44)) = true := decide_eq_true (by omega)
                have b0 : (p : Int) < (T.size : Int) := by omega
                have b1 : (p : Int) + 1 < (T.size : Int) := by omega
                have b2 : (p : Int) + 2 < (T.size : Int) := by omega
                have b3 : (p : Int) + 3 < (T.size : Int) := by omega
                have l0 := HN.out p
                have l1 := HN.out (p + 1)
                have l2 := HN.out (p + 2)
                have l3 := HN.out (p + 3)
                have e1 : IntKind.i64.wrap ((p : Int) + 1) = (p : Int) + 1 := by rw [IntKind.wrap_i64]; omega
                have e2 : IntKind.i64.wrap ((p : Int) + 2) = (p : Int) + 2 := by rw [IntKind.wrap_i64]; omega
                have e3 : IntKind.i64.wrap ((p : Int) + 3) = (p : Int) + 3 := by rw [IntKind.wrap_i64]; omega
                have m0 : IntKind.i64.wrap (262144 * (N p : Int)) = 262144 * (N p : Int) := by rw [IntKind.wrap_i64]; omega
                have m1 : IntKind.i64.wrap (4096 * (N (p + 1) : Int)) = 4096 * (N (p + 1) : Int) := by rw [IntKind.wrap_i64]; omega
                have m2 : IntKind.i64.wrap (64 * (N (p + 2) : Int)) = 64 * (N (p + 2) : Int) := by rw [IntKind.wrap_i64]; omega
                have m3 : IntKind.i64.wrap (262144 * (N p : Int) + 4096 * (N (p + 1) : Int)) = 262144 * (N p : Int) + 4096 * (N (p + 1) : Int) := by rw [IntKind.wrap_i64]; omega
                have m4 : IntKind.i64.wrap (262144 * (N p : Int) + 4096 * (N (p + 1) : Int) + 64 * (N (p + 2) : Int)) = 262144 * (N p : Int) + 4096 * (N (p + 1) : Int) + 64 * (N (p + 2) : Int) := by rw [IntKind.wrap_i64]; omega
                have m5 : IntKind.i64.wrap (262144 * (N p : Int) + 4096 * (N (p + 1) : Int) + 64 * (N (p + 2) : Int) + (N (p + 3) : Int)) = 262144 * (N p : Int) + 4096 * (N (p + 1) : Int) + 64 * (N (p + 2) : Int) + (N (p + 3) : Int) := by rw [IntKind.wrap_i64]; omega
                have HT0 := Lib.hid hT0
                have z0 : (0 : Int) ≤ (p : Int) := Int.natCast_nonneg _
                have z1 : (0 : Int) ≤ (p : Int) + 1 := by omega
                have z2 : (0 : Int) ≤ (p : Int) + 2 := by omega
                have z3 : (0 : Int) ≤ (p : Int) + 3 := by omega
                clear hp hq l0 l1 l2 l3 hT0
                go_wp2_with fail
                go_quiet ((go_at_call 20; refine Calls.quiet_of_same (Calls.mono (HCV.out _ _ _) (fun e w' h => ⟨h.1, h.2⟩))))
                obtain ⟨G, hG⟩ : ∃ G : Nat, ((N p * 64 + N (p + 1)) * 64 + N (p + 2)) * 64 + N (p + 3) = G := ⟨_, rfl⟩
                have eG : 262144 * (N p : Int) + 4096 * (N (p + 1) : Int) + 64 * (N (p + 2) : Int) + (N (p + 3) : Int) = (G : Int) := by
                  rw [← hG]
                  exact group_sum _ _ _ _
                rw [eG]
                have hGl : G < 16777216 := by
                  have l0 := HN.out p
                  have l1 := HN.out (p + 1)
                  have l2 := HN.out (p + 2)
                  have l3 := HN.out (p + 3)
                  omega
                have HGT := Lib.hid (show gTo N k 4 = G from by rw [gTo_four, ← HP.out, hG])
                clear hG eG m0 m1 m2 m3 m4 m5
                have t1 : (G : Int).tdiv 65536 = ((G / 65536 : Nat) : Int) := by rw [Int.tdiv_eq_ediv_of_nonneg (Int.natCast_nonneg _)]; rfl
                have t2 : (G : Int).tdiv 256 = ((G / 256 : Nat) : Int) := by rw [Int.tdiv_eq_ediv_of_nonneg (Int.natCast_nonneg _)]; rfl
                have t3 : (((G / 256 : Nat) : Int)).tmod 256 = ((G / 256 % 256 : Nat) : Int) := by rw [Int.tmod_eq_emod_of_nonneg (Int.natCast_nonneg _)]; rfl
                have t4 : (G : Int).tmod 256 = ((G % 256 : Nat) : Int) := by rw [Int.tmod_eq_emod_of_nonneg (Int.natCast_nonneg _)]; rfl
                have HBL2 := Lib.hid (below_drewN HBL.out nq)
                have HTT := Lib.hid (show ∀ i, i < q + 3 → jB N i = if i < q then jB N i else (fun i => byteAt G (2 - i)) (i - q) from by
                  intro i hi
                  by_cases h : i < q
                  · rw [if_pos h]
                  · rw [if_neg h]
                    have hqq := HQ.out
                    show jB N i = byteAt G (2 - (i - q))
                    unfold jB
                    rw [show i / 3 = k by omega, HGT.out, show i % 3 = i - q by omega])
                have hBl : H ≤ (wr.drewN nq).heap.size := hsz
                have hpl : p < 44 := by have := HP.out; omega
                have hq1 : q + 3 ≤ 1000000 := by have := HQ.out; omega
                have h3c := Lib.hid (three_cells G hGl)
                clear t1 t2 t3 t4
                go_wp2_with (first | (at_builtin; refine wpList_push (T := jB N) rfl _ _ rfl rfl rfl h3c.out (HO.out.drewN nq) HBL2.out hBl hq1 HTT.out ?_; intro A' c' w1 hown1 hbel1 hsz1; have HO1 := Lib.hid hown1; have HL1 := Lib.hid hbel1; clear hown1 hbel1))
                have hq2 : q + 3 = 3 * (k + 1) := by have := HQ.out; omega
                refine ⟨⟨k + 1, p + 4, q + 3, A', c', by omega, by have := HP.out; omega, hq2, by simp, by simp, HO1.out, HL1.out, hsz1⟩, ?_⟩
                show 44 - ((p : Int) + 4).toNat < 44 - (p : Int).toNat
                have := HP.out
                omega
              · obtain rfl : k = 11 := by omega
                have hT1 : (decide ((p : Int) < 44)) = false := decide_eq_false (by omega)
                have hmx := own_max HO.out
                obtain rfl : q = 33 := by omega
                have hle := owns_le HO.out
                clear hp hq
                have c1 : (0 : Int) ≤ 32 := by decide
                have c2 : (32 : Int) ≤ (c : Int) := by omega
                go_wp2_with fail
                go_ret2
                refine ⟨⟨_, ⟨_, by rw [HE.out]; rfl⟩, rd_congr (rd_front HO.out.rd 32 (by omega)) HK.out⟩, ?_⟩
                have h1 := KB.out
                have h2 := HBL.out
                have h3 := HB0.out
                have h4 := HH.out
                rw [h3]
                exact h1.trans (h2.mono (by omega))
          · have d4 : (((V % 4 : Nat) : Int) == 0) = false := beq_false_of_ne (by omega)
            obtain ⟨V4, hV4⟩ : ∃ V4, V % 4 = V4 := ⟨_, rfl⟩
            have HE : Hid (rkE s = 3) := Lib.hid (by
              unfold rkE
              rw [if_neg (by omega), if_neg (by omega), if_neg (by rw [HSG.out]; decide), if_pos (by rw [HV.out]; omega)])
            rw [hV4] at hrem d4
            clear h4 hV4
            go_wp2_with fail
            refine HC.out.mono ?_
            rintro e w' ⟨rfl, rfl⟩
            go_wp2_with fail
            go_ret2
            exact ⟨⟨_, _, by rw [HE.out]; rfl, rd_zero K1.out (HNO.out _ HE.out (by decide)).1 rfl⟩, by rw [hB]; exact KB.out⟩
        · have hix : 43 < s.size := by omega
          have hne : ((s[43].toNat : Nat) : Int) ≠ 61 := by rw [Mem.chr_get s 43 hix]; omega
          have d2 : (((s[43].toNat : Nat) : Int) == 61) = false := beq_false_of_ne hne
          have HE : Hid (rkE s = 11) := Lib.hid (by
            unfold rkE
            rw [if_neg (by omega), if_pos h2])
          clear hne
          go_wp2_with fail
          go_ret2
          exact ⟨⟨_, _, by rw [HE.out]; rfl, rd_zero K1.out (HNO.out _ HE.out (by decide)).1 rfl⟩, by rw [hB]; exact KB.out⟩
  · have d1 : (((s.size : Nat) : Int) == 44) = false := beq_false_of_ne (by omega)
    have HE : Hid (rkE s = 3) := Lib.hid (by
      unfold rkE
      rw [if_pos h1])
    go_wp2_with fail
    go_ret2
    exact ⟨⟨_, _, by rw [HE.out]; rfl, rd_zero K1.out (HNO.out _ HE.out (by decide)).1 rfl⟩, by rw [hB]; exact KB.out⟩

end Text
end Go.Proofs.Ytkigkoeanhepkaa
