/- The calls plus and cut of package field: products of two numbers of 64 digits, and sums of such. -/
import Derived.Test.YtnopjjkijedpeaaFieldLow
import Derived.Laws.Externs
import Derived.BigQuiet
namespace Go.Proofs.Ytnopjjkijedpeaa
namespace Field
open Go.ChangeShapes Go.WideShapes Go.ChangeAt Go.RowKit
open Num Mem Words Radix FieldN Chacha

theorem add64_run (x y c s o : Nat) (hc : c ≤ 1) (hs : s = (x + y + c) % 18446744073709551616) (ho : o = (x + y + c) / 18446744073709551616) (w : World) :
    (callFunc 54 #[.int .u64 x, .int .u64 y, .int .u64 c]).run Try.prog w = .ok (.value (.tuple #[.int .u64 (s : Nat), .int .u64 (o : Nat)])) w := by
  rw [run_callFunc_extern Try.func54 (by kernel_rfl) (by kernel_rfl) (by kernel_rfl) (e := add64Entry) (by kernel_rfl), run_add64 x y c (by omega) (by omega) (by omega) (by omega)]
  simp only [Result.andThen]
  subst hs
  subst ho
  congr 5 <;> omega

theorem or_u64 (x y i : Nat) (hx : x % 2 ^ i = 0) (hy : y < 2 ^ i) (hx2 : x < 18446744073709551616) (hy2 : y < 18446744073709551616) : bits .or .u64 (y : Int) (x : Int) = ((y + x : Nat) : Int) := by
  rw [u64_or_nat _ _ hy2 hx2, Nat.or_comm, nat_join i x y hx hy, Nat.add_comm]

theorem and32 (v : Nat) (hv : v < 18446744073709551616) : bits .and .u64 (v : Int) 4294967295 = ((v % 4294967296 : Nat) : Int) := by
  have h := u64_and_nat v 4294967295 hv (by omega)
  rw [show (4294967295 : Nat) = 2 ^ 32 - 1 from rfl, Nat.and_two_pow_sub_one_eq_mod] at h
  exact h

theorem mul_parts (x y x0 x1 y0 y1 p t v : Nat) (hx : x = x1 * 4294967296 + x0) (hy : y = y1 * 4294967296 + y0) (hp : p = x0 * y0) (ht : t = x1 * y0 + p / 4294967296) (hv : v = t % 4294967296 + x0 * y1) :
    x1 * y1 + t / 4294967296 + v / 4294967296 = x * y / 18446744073709551616 := by
  have e : x * y = (x1 * y1) * 18446744073709551616 + (x1 * y0 + x0 * y1) * 4294967296 + p := by
    subst hx hy hp
    grind
  rw [e]
  generalize x1 * y1 = a at *
  generalize x1 * y0 = b at *
  generalize x0 * y1 = c at *
  clear e
  omega

theorem part_mul (a b : Nat) (ha : a < 4294967296) (hb : b < 4294967296) : a * b ≤ 18446744065119617025 := by
  have h : a * b ≤ 4294967295 * 4294967295 := Nat.mul_le_mul (by omega) (by omega)
  omega

theorem wrap_mul (a b : Nat) : IntKind.u64.wrap ((a : Int) * (b : Int)) = ((a * b % 18446744073709551616 : Nat) : Int) := by
  rw [← Int.natCast_mul, wrap64_nat]

set_option maxRecDepth 100000 in
theorem mul64_any (x y : Nat) (hx : x < 18446744073709551616) (hy : y < 18446744073709551616) (w : World) :
    Calls Try.prog 53 #[.int .u64 x, .int .u64 y] w fun e w' => e = .returned (.tuple #[.int .u64 (x * y / 18446744073709551616 : Nat), .int .u64 (x * y % 18446744073709551616 : Nat)]) ∧ w = w' := by
  obtain ⟨x0, hx0⟩ : ∃ v, v = x % 4294967296 := ⟨_, rfl⟩
  obtain ⟨x1, hx1⟩ : ∃ v, v = x / 4294967296 := ⟨_, rfl⟩
  obtain ⟨y0, hy0⟩ : ∃ v, v = y % 4294967296 := ⟨_, rfl⟩
  obtain ⟨y1, hy1⟩ : ∃ v, v = y / 4294967296 := ⟨_, rfl⟩
  have X0 := Lib.hid (show bits .and .u64 (x : Int) 4294967295 = (x0 : Int) by rw [hx0, and32 x hx])
  have Y0 := Lib.hid (show bits .and .u64 (y : Int) 4294967295 = (y0 : Int) by rw [hy0, and32 y hy])
  have X1 := Lib.hid (show (x : Int) / 4294967296 = (x1 : Int) by omega)
  have Y1 := Lib.hid (show (y : Int) / 4294967296 = (y1 : Int) by omega)
  have b1 : x0 < 4294967296 := by omega
  have b2 : x1 < 4294967296 := by omega
  have b3 : y0 < 4294967296 := by omega
  have b4 : y1 < 4294967296 := by omega
  obtain ⟨p, hp⟩ : ∃ v, v = x0 * y0 := ⟨_, rfl⟩
  obtain ⟨q, hq⟩ : ∃ v, v = x1 * y0 := ⟨_, rfl⟩
  obtain ⟨r, hr⟩ : ∃ v, v = x0 * y1 := ⟨_, rfl⟩
  obtain ⟨s, hs⟩ : ∃ v, v = x1 * y1 := ⟨_, rfl⟩
  have c1 : p ≤ 18446744065119617025 := hp ▸ part_mul x0 y0 b1 b3
  have c2 : q ≤ 18446744065119617025 := hq ▸ part_mul x1 y0 b2 b3
  have c3 : r ≤ 18446744065119617025 := hr ▸ part_mul x0 y1 b1 b4
  have c4 : s ≤ 18446744065119617025 := hs ▸ part_mul x1 y1 b2 b4
  have HP := Lib.hid (show IntKind.u64.wrap ((x0 : Int) * (y0 : Int)) = (p : Int) by rw [wrap_mul, ← hp, Nat.mod_eq_of_lt (by omega)])
  have HQ := Lib.hid (show IntKind.u64.wrap ((x1 : Int) * (y0 : Int)) = (q : Int) by rw [wrap_mul, ← hq, Nat.mod_eq_of_lt (by omega)])
  have HR := Lib.hid (show IntKind.u64.wrap ((x0 : Int) * (y1 : Int)) = (r : Int) by rw [wrap_mul, ← hr, Nat.mod_eq_of_lt (by omega)])
  have HS := Lib.hid (show IntKind.u64.wrap ((x1 : Int) * (y1 : Int)) = (s : Int) by rw [wrap_mul, ← hs, Nat.mod_eq_of_lt (by omega)])
  have HLO := Lib.hid (show IntKind.u64.wrap ((x : Int) * (y : Int)) = ((x * y % 18446744073709551616 : Nat) : Int) from wrap_mul x y)
  obtain ⟨t, ht⟩ : ∃ v, v = q + p / 4294967296 := ⟨_, rfl⟩
  obtain ⟨v, hv⟩ : ∃ v, v = t % 4294967296 + r := ⟨_, rfl⟩
  have HEND := Lib.hid (show s + t / 4294967296 + v / 4294967296 = x * y / 18446744073709551616 from hs ▸ mul_parts x y x0 x1 y0 y1 p t v (by omega) (by omega) hp (hq ▸ ht) (hr ▸ hv))
  have bt : t < 18446744073709551616 := by omega
  have bv : v < 18446744073709551616 := by omega
  have A1 := Lib.hid (and32 t bt)
  have hlast : s + t / 4294967296 + v / 4294967296 < 18446744073709551616 := by
    have h : x * y ≤ 18446744073709551615 * 18446744073709551615 := Nat.mul_le_mul (by omega) (by omega)
    rw [HEND.out]
    exact Nat.div_lt_of_lt_mul (by omega)
  have HT := Lib.hid (show IntKind.u64.wrap (IntKind.u64.wrap ((x1 : Int) * (y0 : Int)) + (p : Int) / 4294967296) = (t : Int) by
    rw [HQ.out, show (q : Int) + (p : Int) / 4294967296 = (t : Int) by omega, wrap64_nat, Nat.mod_eq_of_lt bt])
  have HV := Lib.hid (show IntKind.u64.wrap ((t : Int) % 4294967296 + IntKind.u64.wrap ((x0 : Int) * (y1 : Int))) = (v : Int) by
    rw [HR.out, show (t : Int) % 4294967296 + (r : Int) = (v : Int) by omega, wrap64_nat, Nat.mod_eq_of_lt bv])
  have HE := Lib.hid (show IntKind.u64.wrap (IntKind.u64.wrap (IntKind.u64.wrap ((x1 : Int) * (y1 : Int)) + (t : Int) / 4294967296) + (v : Int) / 4294967296) = ((x * y / 18446744073709551616 : Nat) : Int) by
    rw [HS.out, show (s : Int) + (t : Int) / 4294967296 = ((s + t / 4294967296 : Nat) : Int) by omega, wrap64_nat, Nat.mod_eq_of_lt (by omega), show ((s + t / 4294967296 : Nat) : Int) + (v : Int) / 4294967296 = ((s + t / 4294967296 + v / 4294967296 : Nat) : Int) by omega, wrap64_nat, Nat.mod_eq_of_lt hlast, HEND.out])
  clear hx0 hx1 hy0 hy1 hp hq hr hs ht hv
  go_enter Try.func53, Try.ntmps53
  go_upto_region 6 with fail
  rw [X0.out, Y0.out, X1.out, Y1.out]
  try rw [HP.out]
  go_upto_region 7 with fail
  rw [HT.out]
  go_upto_region 9 with fail
  rw [A1.out]
  go_upto_region 10 with fail
  rw [HV.out]
  go_upto_region 11 with fail
  rw [HE.out]
  go_wp2_with fail
  rw [HLO.out]
  go_ret2
  exact ⟨rfl, rfl⟩

/-- the two numbers of 64 digits of a product: the greater first -/
def pv (v i : Nat) : Nat := if i = 0 then v / 18446744073709551616 else v % 18446744073709551616
theorem qcells_lit2 (f : Nat → Nat) : (qcells f 2).toArray = #[.int .u64 (f 0 : Nat), .int .u64 (f 1 : Nat)] := rfl
theorem pv_lit (v h l : Nat) (hh : v / 18446744073709551616 = h) (hl : v % 18446744073709551616 = l) : (qcells (pv v) 2).toArray = #[.int .u64 (h : Nat), .int .u64 (l : Nat)] := by
  rw [qcells_lit2, show pv v 0 = v / 18446744073709551616 from rfl, show pv v 1 = v % 18446744073709551616 from rfl, hh, hl]

set_option maxRecDepth 100000 in
theorem plus_any (v a b : Nat) (ha : a < 18446744073709551616) (hb : b < 18446744073709551616) (hv : v + a * b < 340282366920938463463374607431768211456) (w : World) :
    Calls Try.prog 45 #[.agg (qcells (pv v) 2).toArray, .int .u64 a, .int .u64 b] w fun e w' => e = .returned (.agg (qcells (pv (v + a * b)) 2).toArray) ∧ Below w.heap.size w w' := by
  obtain ⟨h, hh⟩ : ∃ x, v / 18446744073709551616 = x := ⟨_, rfl⟩
  obtain ⟨l, hl⟩ : ∃ x, v % 18446744073709551616 = x := ⟨_, rfl⟩
  obtain ⟨m, hm⟩ : ∃ x, a * b / 18446744073709551616 = x := ⟨_, rfl⟩
  obtain ⟨n, hn⟩ : ∃ x, a * b % 18446744073709551616 = x := ⟨_, rfl⟩
  obtain ⟨s, hs⟩ : ∃ x, x = (l + n + 0) % 18446744073709551616 := ⟨_, rfl⟩
  obtain ⟨o, ho⟩ : ∃ x, x = (l + n + 0) / 18446744073709551616 := ⟨_, rfl⟩
  obtain ⟨s2, hs2⟩ : ∃ x, x = (h + m + o) % 18446744073709551616 := ⟨_, rfl⟩
  obtain ⟨o2, ho2⟩ : ∃ x, x = (h + m + o) / 18446744073709551616 := ⟨_, rfl⟩
  have A1 := Lib.hid (show ∀ w, (callFunc 54 #[.int .u64 l, .int .u64 n, .int .u64 0]).run Try.prog w = .ok (.value (.tuple #[.int .u64 (s : Nat), .int .u64 (o : Nat)])) w from add64_run l n 0 s o (by omega) hs ho)
  have A2 := Lib.hid (show ∀ w, (callFunc 54 #[.int .u64 h, .int .u64 m, .int .u64 o]).run Try.prog w = .ok (.value (.tuple #[.int .u64 (s2 : Nat), .int .u64 (o2 : Nat)])) w from add64_run h m o s2 o2 (by omega) hs2 ho2)
  have HEND := Lib.hid (pv_lit (v + a * b) s2 s (by generalize a * b = c at *; omega) (by generalize a * b = c at *; omega))
  have HIN := Lib.hid (pv_lit v h l hh hl)
  have HM := Lib.hid (mul64_any a b ha hb)
  rw [hm, hn] at HM
  clear hs ho hs2 ho2 hh hl hm hn hv
  rw [HIN.out, HEND.out]
  go_enter Try.func45, Try.ntmps45
  go_upto_region 1 with fail
  refine cut_world (fun W => Whole W w.heap.size 63 #[.int .u64 h, .int .u64 l] ∧ Whole W (w.heap.size + 1) 63 (qcells (fun _ => 0) 2).toArray ∧ Below w.heap.size w W) ⟨?_, ?_, ?_⟩ ?_
  · exact (whole_new _ _ rfl).alloc _
  · exact whole_new _ _ (by simp)
  · exact below_alloc (below_alloc (Below.refl _ _) _) _
  rintro W ⟨k1, k2, kb⟩
  have K2 := Lib.hid k2
  have KB := Lib.hid kb
  have c0 := k1.cell 0
  have c1 := k1.cell 1
  have hz : ∀ x y : Value, (#[x, y] : Array Value)[0]? = some x := fun _ _ => rfl
  have hz1 : ∀ x y : Value, (#[x, y] : Array Value)[1]? = some y := fun _ _ => rfl
  rw [hz] at c0
  rw [hz1] at c1
  clear k1 k2 kb hz hz1
  generalize hB : w.heap.size = B at K2 KB c0 c1 ⊢
  have d0 := K2.out.num 0 (by omega)
  have d1 := K2.out.num 1 (by omega)
  have f0 := K2.out.free 0
  have f1 := K2.out.free 1
  go_wp2_with (first | (go_at_call 53; refine (HM.out _).mono ?_; rintro e w' ⟨rfl, rfl⟩) | simp only [A1.out] | simp only [A2.out] | (refine wpList_store_row rfl 63 (.tmp 6) (.tmp 33) rfl (B + 1) #[.int .u64 s2, .int .u64 s] rfl rfl 63 _ K2.out (by kernel_rfl) (by rfl) (by rfl) ?_))
  have hret : Whole ((W.setCell ⟨B + 1, 0, none⟩ (.int .u64 s2)).setCell ⟨B + 1, 1, none⟩ (.int .u64 s)) (B + 1) 63 #[.int .u64 s2, .int .u64 s] := (K2.out.put 0 _).put 1 _
  refine bodyPost_ret (results_cell_row rfl _ _ (B + 1) 63 _ (0, 0) _ rfl hret rfl rfl (by kernel_rfl)) rfl ?_
  exact ⟨rfl, by rw [hB]; exact (KB.out.setCell (by simp) _).setCell (by simp) _⟩

theorem cut_low (v l : Nat) (hl : v % 18446744073709551616 = l) : bits .and .u64 (l : Int) 2251799813685247 = ((v % 2251799813685248 : Nat) : Int) := by
  rw [and51 l (by omega)]
  congr 1
  omega

theorem cut_high (v h l : Nat) (hv : v < 41538374868278621028243970633760768) (hh : v / 18446744073709551616 = h) (hl : v % 18446744073709551616 = l) :
    bits .or .u64 (IntKind.u64.wrap ((h : Int) * 8192)) ((l : Int) / 2251799813685248) = ((v / 2251799813685248 : Nat) : Int) := by
  rw [show (h : Int) * 8192 = ((h * 8192 : Nat) : Int) by omega, wrap64_nat, Nat.mod_eq_of_lt (by omega), show (l : Int) / 2251799813685248 = ((l / 2251799813685248 : Nat) : Int) by omega, u64_or_nat _ _ (by omega) (by omega), nat_join 13 _ _ (by omega) (by omega)]
  congr 1
  omega

set_option maxRecDepth 100000 in
theorem cut_any (v : Nat) (hv : v < 41538374868278621028243970633760768) (w : World) :
    Calls Try.prog 46 #[.agg (qcells (pv v) 2).toArray] w fun e w' => e = .returned (.tuple #[.int .u64 (v % 2251799813685248 : Nat), .int .u64 (v / 2251799813685248 : Nat)]) ∧ Below w.heap.size w w' := by
  obtain ⟨h, hh⟩ : ∃ x, v / 18446744073709551616 = x := ⟨_, rfl⟩
  obtain ⟨l, hl⟩ : ∃ x, v % 18446744073709551616 = x := ⟨_, rfl⟩
  have HIN := Lib.hid (pv_lit v h l hh hl)
  have HL := Lib.hid (cut_low v l hl)
  have HH := Lib.hid (cut_high v h l hv hh hl)
  clear hh hl hv
  rw [HIN.out]
  go_enter Try.func46, Try.ntmps46
  go_upto_region 1 with fail
  refine cut_world (fun W => Whole W w.heap.size 63 #[.int .u64 h, .int .u64 l] ∧ Below w.heap.size w W) ⟨?_, ?_⟩ ?_
  · exact whole_new _ _ rfl
  · exact below_alloc (Below.refl _ _) _
  rintro W ⟨k1, kb⟩
  have KB := Lib.hid kb
  have c0 := k1.cell 0
  have c1 := k1.cell 1
  have hz : ∀ x y : Value, (#[x, y] : Array Value)[0]? = some x := fun _ _ => rfl
  have hz1 : ∀ x y : Value, (#[x, y] : Array Value)[1]? = some y := fun _ _ => rfl
  rw [hz] at c0
  rw [hz1] at c1
  clear k1 kb hz hz1
  generalize hB : w.heap.size = B at KB c0 c1 ⊢
  go_wp2_with fail
  go_quiet (fail)
  go_wp2_with fail
  rw [HL.out, HH.out]
  go_ret2
  exact ⟨rfl, by rw [hB]; exact below_drewN KB.out _⟩

end Field
end Go.Proofs.Ytnopjjkijedpeaa
