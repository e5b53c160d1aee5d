/- Addresses as cells, their '==', and cidr's Right. Out of layer 12's texts (mkaddr.py). -/
import Derived.Test.YtcpfchfhcfdcpaaKit
import Derived.Test.YtcpfchfhcfdcpaaOps
import Derived.Laws.StructEq
import Derived.Deep.DeepCutAuto
namespace Go.Proofs.Ytcpfchfhcfdcpaa
namespace Adr
open Go.ChangeShapes Go.WideShapes Go.ChangeAt Go.RowKit
open Num Mem Words Chacha Aead Poly Ops

/-- an address as cells -/
def addrL (six : Bool) (f : Nat → Nat) : List Value := .bool six :: byteCells f 16

def nought : Nat → Nat := fun _ => 0

theorem addrL_length (s : Bool) (f : Nat → Nat) : (addrL s f).length = 17 := by simp [addrL, byteCells_length]

theorem addr_size (s : Bool) (f : Nat → Nat) : (addrL s f).toArray.size = 17 := by rw [List.size_toArray, addrL_length]

theorem addr_each (s : Bool) (f : Nat → Nat) : ∀ v ∈ addrL s f, v.oneCell' = true := by
  intro v hv
  rcases List.mem_cons.1 hv with h | h
  · subst h; rfl
  · exact bytes_each f 16 v h

theorem addr_one (s : Bool) (f : Nat → Nat) : (addrL s f).toArray.all (·.oneCell') = true := by
  rw [List.all_toArray, List.all_eq_true]
  exact addr_each _ _

theorem addr_congr {s : Bool} {f g : Nat → Nat} (h : ∀ i, i < 16 → f i = g i) : addrL s f = addrL s g := by
  unfold addrL
  rw [byteCells_congr h]

theorem addr_splice (s : Bool) (f F G : Nat → Nat) (m : Nat) (hm : m ≤ 16) (hG : ∀ i, i < 16 → G i = if i < m then F i else f i) : splice (addrL s f) 1 (byteCells F m) = addrL s G := by
  have e := byteCells_splice f F G 16 0 m (by omega) (fun i hi => by
    rw [hG i hi]
    by_cases l : i < m
    · rw [if_pos l, if_pos ⟨by omega, by omega⟩, Nat.sub_zero]
    · rw [if_neg l, if_neg (by omega)])
  unfold splice at e ⊢
  rw [byteCells_length] at e ⊢
  unfold addrL
  rw [List.take_succ_cons, Nat.add_comm 1 m, List.drop_succ_cons, ← e]
  simp

theorem zero_addr (w : World) : (zeroValue 27).run Try.prog w = .ok (.agg (addrL false nought).toArray) w := by kernel_rfl

theorem addr_built0 : Try.prog.built 27 [] = some (addrL false nought).toArray := by kernel_rfl

theorem addr_built1 (s : Bool) : Try.prog.built 27 [(0, .bool s)] = some (addrL s nought).toArray := by kernel_rfl

theorem wpList_built0 {P : Program} {ops : Array Oper} {rest : List Oper} {o : Oper} {a : Act} {w : World} {Q : Exit → Act → World → Prop} (hg : o.guard = none) (t : TypeId) (ho : o.op = .build t #[])
    (vs : Array Value) (hb : P.built t [] = some vs) (h : wpList P ops Q rest (a.put o.dst (.agg vs)) w) : wpList P ops Q (o :: rest) a w := by
  have e : P.built t ((#[] : Array (Nat × Operand)).map fun (i, x) => (i, a.eval x)).toList = some vs := by simpa using hb
  refine wpList_build hg t #[] ho (by rw [e]; rfl) ?_
  rw [e]
  exact h

theorem wpList_built1 {P : Program} {ops : Array Oper} {rest : List Oper} {o : Oper} {a : Act} {w : World} {Q : Exit → Act → World → Prop} (hg : o.guard = none) (t : TypeId) (k : Nat) (x : Operand) (ho : o.op = .build t #[(k, x)])
    (v : Value) (hx : a.eval x = v) (vs : Array Value) (hb : P.built t [(k, v)] = some vs) (h : wpList P ops Q rest (a.put o.dst (.agg vs)) w) : wpList P ops Q (o :: rest) a w := by
  have e : P.built t ((#[(k, x)] : Array (Nat × Operand)).map fun (i, x) => (i, a.eval x)).toList = some vs := by simpa [hx] using hb
  refine wpList_build hg t #[(k, x)] ho (by rw [e]; rfl) ?_
  rw [e]
  exact h

theorem wpList_built3 {P : Program} {ops : Array Oper} {rest : List Oper} {o : Oper} {a : Act} {w : World} {Q : Exit → Act → World → Prop} (hg : o.guard = none) (t : TypeId) (k1 k2 k3 : Nat) (x1 x2 x3 : Operand) (ho : o.op = .build t #[(k1, x1), (k2, x2), (k3, x3)])
    (v1 v2 v3 : Value) (h1 : a.eval x1 = v1) (h2 : a.eval x2 = v2) (h3 : a.eval x3 = v3) (vs : Array Value) (hb : P.built t [(k1, v1), (k2, v2), (k3, v3)] = some vs) (h : wpList P ops Q rest (a.put o.dst (.agg vs)) w) : wpList P ops Q (o :: rest) a w := by
  have e : P.built t ((#[(k1, x1), (k2, x2), (k3, x3)] : Array (Nat × Operand)).map fun (i, x) => (i, a.eval x)).toList = some vs := by simpa [h1, h2, h3] using hb
  refine wpList_build hg t #[(k1, x1), (k2, x2), (k3, x3)] ho (by rw [e]; rfl) ?_
  rw [e]
  exact h

def at4 (f : Nat → Nat) (p i : Nat) : Nat := if i < 4 then f (p + i) else 0

theorem at4_lt {f : Nat → Nat} (hf : ∀ i, f i < 256) (p i : Nat) : at4 f p i < 256 := by
  have := hf (p + i)
  unfold at4
  split <;> omega

theorem eqin_bytes (d : Nat) (f g : Nat → Nat) (hf : ∀ i, f i < 256) (hg : ∀ i, g i < 256) (r : Bool) (hr : r = true ↔ ∀ i, i < 16 → f i = g i) (w : World) :
    (Op.equalIn (d + 2) 25 (.agg (byteCells f 16).toArray) (.agg (byteCells g 16).toArray)).run Try.prog w = .ok r w := by
  rw [byteCells_cell f hf, byteCells_cell g hg, run_equalIn_bytes w d 25 5 16 Try.underlying25 Try.underlying5 size_u8 _ _ (by simp) (by simp)]
  congr 1
  rw [Bool.eq_iff_iff, hr, beq_iff_eq]
  constructor
  · intro h i hi
    have h3 := congrArg (fun l : List UInt8 => l[i]?) h
    simp only [List.getElem?_map, List.getElem?_range hi, Option.map_some, Option.some.injEq] at h3
    have h4 := congrArg UInt8.toNat h3
    simp only [UInt8.toNat_ofNat'] at h4
    have := hf i
    have := hg i
    omega
  · intro h
    exact List.map_congr_left fun i hi => by rw [h i (List.mem_range.1 hi)]

theorem size16 (w : World) : (sizeOf 25).run Try.prog w = .ok 16 w := by kernel_rfl

theorem size17 (w : World) : (sizeOf 27).run Try.prog w = .ok 17 w := by kernel_rfl

theorem part_six (s : Bool) (f : Nat → Nat) (w : World) : (part 4 (addrL s f).toArray 0).run Try.prog w = .ok (.bool s) w := by
  simp [part, isAgg, run_underlying Try.underlying4, addrL]

theorem part_row (s : Bool) (f : Nat → Nat) (w : World) : (part 25 (addrL s f).toArray 1).run Try.prog w = .ok (.agg (byteCells f 16).toArray) w := by
  simp only [part, isAgg, run_underlying Try.underlying25, Sem.run_bind, Result.andThen_ok, Sem.run_pure, if_true, size16]
  congr 2

theorem eqin_addr (d : Nat) (s t : Bool) (f g : Nat → Nat) (hf : ∀ i, f i < 256) (hg : ∀ i, g i < 256) (r : Bool) (hr : r = true ↔ s = t ∧ ∀ i, i < 16 → f i = g i) (w : World) :
    (Op.equalIn (d + 3) 27 (.agg (addrL s f).toArray) (.agg (addrL t g).toArray)).run Try.prog w = .ok r w := by
  rw [run_equalIn_struct w (d + 2) 27 _ _ (by simp only [Program.fieldsOf, Try.underlying27]) (by kernel_rfl)]
  have e : (Try.prog.fieldsOf 27).toList = [{ name := "Six", type := 4, offset := 0, embedded := false, tag := "", pkgPath := "", byteOffset := 0 }, { name := "B", type := 25, offset := 1, embedded := false, tag := "", pkgPath := "", byteOffset := 1 }] := by
    simp only [Program.fieldsOf, Try.underlying27]
  rw [e]
  simp only [Op.eqFields]
  rw [if_pos (by decide)]
  simp only [Sem.run_bind, part_six, Result.andThen_ok, run_equalIn_bool w (d + 1) 4 s t Try.underlying4]
  by_cases hst : s = t
  · subst hst
    have e2 := eqin_bytes d f g hf hg r (hr.trans ⟨fun h => h.2, fun h => ⟨rfl, h⟩⟩) w
    simp only [beq_self_eq_true, Bool.not_true, Bool.false_eq_true, if_false, ne_eq, String.reduceEq, not_false_eq_true, if_true, Sem.run_bind, part_row, Result.andThen_ok, e2]
    cases r <;> simp
  · have e3 : (s == t) = false := by rw [beq_eq_false_iff_ne]; exact hst
    have e4 : r = false := by
      cases r
      · rfl
      · exact absurd (hr.1 rfl).1 hst
    subst e4
    simp [e3]

theorem grown_below {w w' : World} {g : Nat} (h : Below w.heap.size w w') : w.grownBy w' (some g) := ⟨h.os, h.tape, h.output, h.size, fun i hi _ => h.block i hi⟩

/-- an address may be -/
def rightB (six : Bool) (f : Nat → Nat) : Bool := six || decide (∀ i : Fin 16, 4 ≤ i.1 → f i.1 = 0)

set_option maxRecDepth 100000 in
set_option maxHeartbeats 2000000 in
theorem right_any (six : Bool) (f : Nat → Nat) (hf : ∀ i, f i < 256) (w : World) :
    Calls Try.prog 48 #[.agg (addrL six f).toArray] w fun e w' => e = .returned (.bool (rightB six f)) ∧ Below w.heap.size w w' := by
  obtain ⟨zs, hz, hzs, hzc⟩ : ∃ zs : Array Value, (∀ w, (zeroValue 27).run Try.prog w = .ok (.agg zs) w) ∧ zs.size = 17 ∧ zs = (addrL false nought).toArray := ⟨_, zero_addr, addr_size _ _, rfl⟩
  have HZS := Lib.hid hzs
  have HZC := Lib.hid hzc
  clear hzs hzc
  have HF := Lib.hid hf
  clear hf
  obtain ⟨L, hL⟩ : ∃ L, addrL six f = L := ⟨_, rfl⟩
  rw [hL]
  have HL := Lib.hid hL
  clear hL
  go_enter Try.func48, Try.ntmps48
  go_upto_region 2 with fail
  refine cut_world (fun X => Whole X w.heap.size 27 L.toArray ∧ Whole X (w.heap.size + 1) 27 zs ∧ Below w.heap.size w X) ⟨(Whole.new _ _ _).alloc _, whole_new _ _ (by simp), below_alloc (below_alloc (Below.refl _ _) _) _⟩ ?_
  rintro W ⟨p1, p2, pb⟩
  have P1 := Lib.hid p1
  have P2D := Lib.hid (show Whole W.drew (w.heap.size + 1) 27 (addrL false nought).toArray from HZC.out ▸ p2.drew)
  have PB := Lib.hid pb
  have HS := Lib.hid (show ∀ (j : Nat) (v : Value), (byteCells f 4)[j]? = some v → W.drew.cell? ((⟨w.heap.size, 1, none⟩ : Addr).add j) = some v from
    rd_src fun i hi => by
      have h := p1.drew.cell (1 + i)
      rw [h, ← HL.out, List.getElem?_toArray]
      unfold addrL
      rw [Nat.add_comm 1 i, List.getElem?_cons_succ, byteCells_get _ _ _ (by omega)])
  have hl := p2.lt
  clear p1 p2 pb
  generalize hB : w.heap.size = B at P1 P2D PB HS hl ⊢
  go_region_law (refine step_copy_grown rfl (.tmp 5) (.tmp 7) 94 94 rfl 5 rfl (by kernel_rfl) (B + 1) 1 4 16 ⟨B, 1, none⟩ 16 16 rfl rfl (addrL false nought) 27 P2D.out (byteCells f 4) (by rw [byteCells_length]; rfl) HS.out (by rw [byteCells_length, addrL_length]; omega) (bytes_each _ _) ?_; intro w8 hg8 hb8)
  have Q2 := Lib.hid (show Whole w8 (B + 1) 27 (addrL false (at4 f 0)).toArray from by
    have h := hg8.out
    rw [addr_splice false nought f (at4 f 0) 4 (by omega) (fun i hi => by
      unfold at4
      rw [Nat.zero_add]
      rfl)] at h
    exact h)
  have Q1 := Lib.hid (whole_grown (w := w8) P1.out.drew hb8 (by omega))
  have QB := Lib.hid (below_grown (below_drewN PB.out 1) hb8 (by omega) (by show B ≤ W.heap.size; omega))
  have hc0 : w8.cell? ⟨B, 0, none⟩ = some (.bool six) := by
    rw [Q1.out.cell, ← HL.out]
    rfl
  clear hg8 hb8 P1 P2D PB HS
  rcases six with _ | _
  · have E := Lib.hid (fun w => eqin_addr 9997 false false f (at4 f 0) HF.out (at4_lt HF.out 0) (rightB false f) (by
      unfold rightB
      rw [Bool.false_or, decide_eq_true_eq]
      constructor
      · intro h
        refine ⟨rfl, fun i hi => ?_⟩
        unfold at4
        by_cases l : i < 4
        · rw [if_pos l, Nat.zero_add]
        · rw [if_neg l]; exact h ⟨i, hi⟩ (by show 4 ≤ i; omega)
      · rintro ⟨_, h⟩ ⟨i, hi⟩ hi4
        have := h i hi
        unfold at4 at this
        rwa [if_neg (show ¬ i < 4 from Nat.not_lt.2 hi4)] at this) w)
    rw [HL.out] at E
    have HLS := Lib.hid (show L.length = 17 from by rw [← HL.out, addrL_length])
    have HMS := Lib.hid (addrL_length false (at4 f 0))
    obtain ⟨M, hM⟩ : ∃ M, addrL false (at4 f 0) = M := ⟨_, rfl⟩
    rw [hM] at E Q2 HMS
    obtain ⟨r, hr⟩ : ∃ r, rightB false f = r := ⟨_, rfl⟩
    rw [hr] at E
    have HRr := Lib.hid hr
    clear hM hr HL
    go_wp2_with (first | (refine wpList_load_row_if (by rfl) 27 (.tmp 1) rfl B rfl 27 L _ Q1.out rfl rfl (by rw [HLS.out]; kernel_rfl) ?_) | (refine wpList_load_row_if (by rfl) 27 (.tmp 3) rfl (B + 1) rfl 27 M _ Q2.out rfl rfl (by rw [HMS.out]; kernel_rfl) ?_) | (refine wpList_value_if (by rfl) (.bool r) (run_eql_op 27 (.tmp 12) (.tmp 13) _ rfl L.toArray M.toArray rfl rfl r (by kernel_rfl) E.out _) ?_))
    go_ret
    exact ⟨by rw [HRr.out]; rfl, by rw [hB]; exact QB.out⟩
  · go_wp2_with fail
    go_ret
    exact ⟨rfl, by rw [hB]; exact QB.out⟩

end Adr
end Go.Proofs.Ytcpfchfhcfdcpaa
