/- The document's DropAll, with the room of what it answers. -/
import Derived.Test.YtcpfchfhcfdcpaaTlMaths
namespace Go.Proofs.Ytcpfchfhcfdcpaa
namespace Tri
open Go.ChangeShapes Go.WideShapes Go.ChangeAt Go.RowKit
open Num Mem Words Chacha Aead Poly Quiet Ops Adr RowS

structure NvW (w : World) (M : List Rt) (A : Option Addr) (c : Nat) (X : World) : Prop where
  row : X.ownsRow w.heap.size 41 19 (.slice A M.length c) M.length (flatR M)
  bel : Below w.heap.size w X
set_option maxRecDepth 100000 in
set_option maxHeartbeats 4000000 in
theorem rDropAll_any {w : World} {A : Option Addr} {L : List Rt} (c : Nat) (h : RdQ w A L) (hL : L.length ≤ 1000) (o : Int) :
    Calls Try.prog 24 #[.slice A L.length c, .int .i64 o] w fun e w' => ∃ A' c', e = .returned (.slice A' (TrieOwners.noO o L).length c') ∧ RdQ w' A' (TrieOwners.noO o L) ∧ ((TrieOwners.noO o L).length ≤ c' ∧ c' ≤ 9223372036854775807) ∧ Below w.heap.size w w' := by
  have HR := Lib.hid h
  obtain ⟨n, hn⟩ : ∃ n, L.length = n := ⟨_, rfl⟩
  rw [hn] at hL ⊢
  have HN := Lib.hid hn
  clear h hn
  go_enter Try.func24, Try.ntmps24
  go_wp2_with fail
  go_loopw [5, 6] (fun out i X => ∃ (k : Nat) (A' : Option Addr) (c' : Nat), k ≤ n ∧ i = .int .i64 (k : Nat) ∧ out = .slice A' (TrieOwners.noO o (L.take k)).length c' ∧ NvW w (TrieOwners.noO o (L.take k)) A' c' X) (fun _ i _ => n - (intOf i).toNat)
  case atStart => exact ⟨0, none, 0, Nat.zero_le _, rfl, rfl, ⟨⟨rfl, .inl ⟨rfl, rfl⟩⟩, Below.refl _ _⟩⟩
  case round =>
    obtain ⟨k, A', c', hk, rfl, rfl, hW⟩ := hrel
    have HW := Lib.hid hW
    clear hW
    by_cases hlt : k < n
    · have hkL : k < L.length := by rw [HN.out]; exact hlt
      have hx := List.getElem?_eq_getElem hkL
      have hts : L.take (k + 1) = L.take k ++ [L[k]] := List.take_succ_eq_append_getElem hkL
      generalize L[k] = x at hx hts
      obtain ⟨g, rfl, hgl, hrg⟩ := HR.out.out k x hx
      have HTS := Lib.hid (show TrieOwners.noO o (L.take (k + 1)) = if x.o = o then TrieOwners.noO o (L.take k) else TrieOwners.noO o (L.take k) ++ [x] from by rw [hts, TrieOwners.noO_snoc])
      have HMK := Lib.hid (show (TrieOwners.noO o (L.take k)).length ≤ k from Nat.le_trans (List.length_filter_le _ _) (by rw [List.length_take]; omega))
      have HRG := Lib.hid (range_below hrg HW.out.bel hgl)
      have hc := HRG.out 18 _ (show x.cells[18]? = some (.int .i64 x.o) from x.own)
      have HB2 := Lib.hid (built_refr x)
      have HXC := Lib.hid (show x.cells.length = 19 ∧ ∀ u ∈ x.cells, u.oneCell' = true from ⟨x.len, x.each⟩)
      have HFS := Lib.hid (show flatR (TrieOwners.noO o (L.take k) ++ [x]) = flatR (TrieOwners.noO o (L.take k)) ++ x.cells from flatR_snoc _ _)
      obtain ⟨C, hC⟩ : ∃ C, x.cells = C := ⟨_, rfl⟩
      rw [hC] at HRG HB2 HXC HFS
      obtain ⟨M, hM⟩ : ∃ M, TrieOwners.noO o (L.take k) = M := ⟨_, rfl⟩
      rw [hM] at HTS HMK HFS HW ⊢
      obtain ⟨j, hj⟩ : ∃ j, M.length = j := ⟨_, rfl⟩
      have HJ := Lib.hid hj
      rw [hj] at HMK ⊢
      have hjk := HMK.out
      have hown := HW.out.row
      rw [hj] at hown
      have HOWN := Lib.hid hown
      clear hx hts hgl hrg hkL hC hM hj hown
      by_cases hxo : x.o = o
      · have HXO := Lib.hid hxo
        have ht : (x.o != o) = false := by simp [hxo]
        rw [if_pos hxo] at HTS
        clear hxo
        go_wp2_with fail
        go_round
        case rel => exact ⟨k + 1, A', c', by omega, by go_num, by rw [HTS.out, HJ.out], by rw [HTS.out]; exact HW.out⟩
        case measure => simp only [intOf]; omega
      · have ht : (x.o != o) = true := by simp [hxo]
        rw [if_neg hxo] at HTS
        clear hxo
        go_wp2_with (first
          | (refine wpList_load_mid rfl 41 (.tmp 23) rfl g (k * 19) (by go_simp) C _ HRG.out rfl rfl (by rw [HXC.out.1]; kernel_rfl) ?_)
          | (refine TrieOwners.wpList_rowOne rfl 24 41 (.tmp 24) rfl (.agg C.toArray) rfl Try.underlying24 C.toArray HB2.out ?_)
          | (at_builtin; refine wpList_pushS (w := wr) C 19 rfl _ _ 24 41 (.agg (routeL false nought 0 0).toArray) 40 Try.underlying24 info_refr (by show (routeL false nought 0 0).toArray.size = 19; rw [List.size_toArray, routeL_length]) (by omega) rfl rfl rfl HOWN.out HW.out.bel.size HXC.out.1 HXC.out.2 (by omega) (by omega) ?_; intro A2 c2 w3 hown hbel; have H3 := Lib.hid (show NvW w (M ++ [x]) A2 c2 w3 from ⟨by rw [List.length_append, List.length_singleton, HJ.out, HFS.out]; exact hown, HW.out.bel.trans hbel⟩); clear hown hbel))
        go_round
        case rel => exact ⟨k + 1, A2, c2, by omega, by go_num, by rw [HTS.out, List.length_append, List.length_singleton, HJ.out], by rw [HTS.out]; exact H3.out⟩
        case measure => simp only [intOf]; omega
    · obtain rfl : k = n := by omega
      have hall : L.take k = L := List.take_of_length_le (Nat.le_of_eq HN.out)
      rw [hall] at HW ⊢
      clear hall
      go_wp2_with fail
      go_ret
      exact ⟨A', c', rfl, rdQ_of (rdR_own HW.out.row), own_caps HW.out.row, HW.out.bel⟩
end Tri
end Go.Proofs.Ytcpfchfhcfdcpaa
