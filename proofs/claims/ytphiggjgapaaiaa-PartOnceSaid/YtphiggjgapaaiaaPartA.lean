/- The walks of part.spelt and part.Of. -/
import Derived.Test.YtphiggjgapaaiaaPartM
import Derived.Test.YtphiggjgapaaiaaHigh
namespace Go.Proofs.Ytphiggjgapaaiaa
open Go.RowKit
set_option linter.unusedVariables false

theorem highB_eq (i : Int) : highB i = topB (i % 18446744073709551616).toNat 8 := by
  simp [highB, topB, List.range_succ]
theorem speltB (s : ByteArray) : s.data.toList.length = s.size := by rw [Array.length_toList]; rfl

theorem own_some1 {w : World} {base : Nat} {e : TypeId} {size n c : Nat} {A : Option Addr} {xs : List Value} (h : w.ownsRow base e size (.slice A n c) n xs) (hn : 0 < n) : ∃ g, A = some ⟨g, 0, none⟩ := by
  rcases h.2 with ⟨_, h0⟩ | ⟨g, cap, cur, hv, _⟩
  · omega
  · injection hv with e1 e2 e3; exact ⟨g, e1⟩

theorem lit_own (x : Nat) (w w1 : World) (l : Later w w1) {z : Nat} (hz : w1.heap.size = z) : (w1.alloc (.cells #[.int .u8 (x : Int)] 5)).ownsRow w.heap.size 5 1 (.slice (some ⟨z, 0, none⟩) 1 1) 1 (ints .u8 [x]) := by
  subst hz
  exact (Row.lit w1 5 .u8 [x]).own (base := w.heap.size) l.size (by simp [maxLen])

set_option maxRecDepth 100000 in
set_option maxHeartbeats 1000000 in
theorem spelt_text (i : Int) (s : ByteArray) (w : World) (hs : s.size ≤ 1000) : Calls Try.prog 15 #[vagg 4 i s] w (Makes (speltV 4 i s) w) := by
  have HOX := Lib.hid (show ((w.alloc (.cells #[.int .i64 4, .int .i64 i, .string s] 40)).alloc (.cells #[.int .u8 0] 5)).ownsRow w.heap.size 5 1 (.slice (some ⟨w.heap.size + 1, 0, none⟩) 1 1) 1 (ints .u8 [0]) from lit_own 0 w _ (Later.new _ _) (by simp))
  have HL2 := Lib.hid (show Later w ((w.alloc (.cells #[.int .i64 4, .int .i64 i, .string s] 40)).alloc (.cells #[.int .u8 0] 5)) from (Later.new _ _).alloc _)
  go_enter Try.func15, Try.ntmps15
  go_wp2_with (at_builtin; refine wpList_append_str _ rfl (.tmp 13) (.tmp 15) 22 9 rfl w.heap.size 5 Try.underlying22 Try.underlying9 info_u8 _ 1 (ints .u8 [0]) rfl HOX.out s rfl ?_ ?_ ?_ ?_; (unfold maxLen; omega); omega; (exact HL2.out.size); intro A2 c2 w3 o3 b3 n3; have HO3 := Lib.hid o3; have HL3 := Lib.hid (HL2.out.below.trans b3); obtain ⟨g, rfl⟩ := own_some1 o3 (by omega); have e0 : w3.cell? ⟨g, 0, none⟩ = some (.int .u8 0) := o3.cellAt 0 (by omega); have f0 := o3.frozenAt 0; clear n3 b3 o3)
  go_ret
  obtain ⟨o5, _⟩ := HO3.out.stored 0 (.int .u8 1)
  obtain ⟨o6, _⟩ := o5.stored 0 (.int .u8 2)
  have hl : (speltV 4 i s).length = 1 + s.size := by unfold speltV; rw [if_pos rfl, List.length_cons, List.length_map, speltB]; omega
  have hc : ((ints .u8 [0] ++ Lib.strCells s).set 0 (.int .u8 1)).set 0 (.int .u8 2) = ints .u8 (speltV 4 i s) := by
    simp [speltV, Lib.strCells, ints]
  rw [hc] at o6
  refine ⟨some ⟨g, 0, none⟩, c2, ?_, ?_, (HL3.out.setCell (p := ⟨g, 0, none⟩) ?_ _).setCell (p := ⟨g, 0, none⟩) ?_ _, fun h => by cases h⟩
  · rw [hl]; rfl
  · rw [hl]; exact o6
  all_goals exact (HO3.out.lt g rfl).1

set_option maxRecDepth 100000 in
set_option maxHeartbeats 1000000 in
theorem spelt_none (i : Int) (s : ByteArray) (w : World) : Calls Try.prog 15 #[vagg 0 i s] w (Makes (speltV 0 i s) w) := by
  have HOX := Lib.hid (show ((w.alloc (.cells #[.int .i64 0, .int .i64 i, .string s] 40)).alloc (.cells #[.int .u8 0] 5)).ownsRow w.heap.size 5 1 (.slice (some ⟨w.heap.size + 1, 0, none⟩) 1 1) 1 (ints .u8 [0]) from lit_own 0 w _ (Later.new _ _) (by simp))
  have HL2 := Lib.hid (show Later w ((w.alloc (.cells #[.int .i64 0, .int .i64 i, .string s] 40)).alloc (.cells #[.int .u8 0] 5)) from (Later.new _ _).alloc _)
  go_enter Try.func15, Try.ntmps15
  go_wp2_with fail
  go_ret
  exact ⟨some ⟨w.heap.size + 1, 0, none⟩, 1, by simp [speltV], HOX.out, HL2.out.below, fun h => by cases h⟩

set_option maxRecDepth 100000 in
set_option maxHeartbeats 1000000 in
theorem spelt_num (t i : Int) (s : ByteArray) (w : World) (h0 : t ≠ 0) (h4 : t ≠ 4) : Calls Try.prog 15 #[vagg t i s] w (Makes (speltV t i s) w) := by
  have HOX := Lib.hid (show ((w.alloc (.cells #[.int .i64 t, .int .i64 i, .string s] 40)).alloc (.cells #[.int .u8 0] 5)).ownsRow w.heap.size 5 1 (.slice (some ⟨w.heap.size + 1, 0, none⟩) 1 1) 1 (ints .u8 [0]) from lit_own 0 w _ (Later.new _ _) (by simp))
  have HL2 := Lib.hid (show Later w ((w.alloc (.cells #[.int .i64 t, .int .i64 i, .string s] 40)).alloc (.cells #[.int .u8 0] 5)) from (Later.new _ _).alloc _)
  obtain ⟨U, hU⟩ : ∃ U : Nat, U = (i % 18446744073709551616).toNat := ⟨_, rfl⟩
  have hwr : IntKind.u64.wrap i = (U : Int) := by rw [IntKind.wrap_u64]; omega
  have hU64 : U < 18446744073709551616 := by omega
  have HSP := Lib.hid (show speltV t i s = 1 :: topB U 8 from by unfold speltV; rw [if_neg h4, if_neg h0, highB_eq, hU])
  have HOS := Lib.hid (lit_own 1 w (w.alloc (.cells #[.int .i64 t, .int .i64 i, .string s] 40)) (Later.new _ _) (z := w.heap.size + 1) (by simp))
  have HLS := Lib.hid (show Later w ((w.alloc (.cells #[.int .i64 t, .int .i64 i, .string s] 40)).alloc (.cells #[.int .u8 1] 5)) from (Later.new _ _).alloc _)
  have ht4 : (t == 4) = false := by simp [h4]
  have ht0 : (t != 0) = true := by simp [h0]
  clear hU h0 h4
  go_enter Try.func15, Try.ntmps15
  go_wp2_with (first
    | (go_at_call 19; refine (high_makes U 8 hU64 (by omega) _).mono ?_; rintro e w5 ⟨P, cp, rfl, o5, b5, n5⟩; have OWN := Lib.hid (own_later HOS.out (Later.of b5)); have RD := Lib.hid (Rd.own o5); have N5 := Lib.hid n5; have HB5 := Lib.hid (HLS.out.trans (Later.of b5)); clear o5 b5 n5)
    | (at_builtin; refine wpList_append_rd _ rfl (.tmp 31) (.tmp 35) 22 rfl w.heap.size 5 (.int .u8 0) 1 Try.underlying22 info_u8 rfl _ 1 _ rfl OWN.out _ _ (topB U 8).length cp (ints .u8 (topB U 8)) rfl RD.out ?_ N5.out (ints_one _ _) ?_ ?_ ?_ ?_; (rw [ints_length]); (unfold maxLen; rw [topB_length]; omega); (rw [topB_length]; omega); (exact HB5.out.size); intro A2 c2 w6 o2 g2 b2 n2; have HO2 := Lib.hid o2; have HB6 := Lib.hid (HB5.out.below.trans b2); have HN2 := Lib.hid n2; clear o2 g2 b2 n2))
  go_ret
  refine ⟨A2, c2, ?_, ?_, HB6.out, HN2.out⟩
  · rw [HSP.out, List.length_cons, Nat.add_comm]; rfl
  · rw [HSP.out, List.length_cons, Nat.add_comm]; exact HO2.out

theorem spelt_any (t i : Int) (s : ByteArray) (w : World) (hs : s.size ≤ 1000) : Calls Try.prog 15 #[vagg t i s] w (Makes (speltV t i s) w) := by
  by_cases h4 : t = 4
  · subst h4; exact spelt_text i s w hs
  · by_cases h0 : t = 0
    · subst h0; exact spelt_none i s w
    · exact spelt_num t i s w h0 h4
theorem speltV_lt (t i : Int) (s : ByteArray) : ∀ x ∈ speltV t i s, x < 256 := by
  intro x hx
  unfold speltV at hx
  split at hx
  · rcases List.mem_cons.1 hx with rfl | h
    · omega
    · obtain ⟨b, _, rfl⟩ := List.mem_map.1 h; exact b.toNat_lt
  · split at hx
    · rw [List.mem_singleton] at hx; omega
    · rcases List.mem_cons.1 hx with rfl | h
      · omega
      · rw [highB_eq] at h; exact topB_lt _ _ x h
theorem speltV_len (t i : Int) (s : ByteArray) (hs : s.size ≤ 1000) : (speltV t i s).length ≤ 1001 := by
  unfold speltV
  split
  · rw [List.length_cons, List.length_map, speltB]; omega
  · split
    · simp
    · rw [List.length_cons, highB_eq, topB_length]; omega
theorem fnv_take (l : List Nat) (k : Nat) (h : k < l.length) : fnv (l.take (k + 1)) = fnvStep (fnv (l.take k)) l[k] := by
  rw [List.take_succ_eq_append_getElem h, fnv_snoc]
theorem fnv_step32 (h b : Nat) (hh : h < 4294967296) (hb : b < 256) : IntKind.u32.wrap (bits .xor .u32 (h : Int) (b : Int) * 16777619) = ((fnvStep h b : Nat) : Int) := by
  rw [u32_xor_nat h b hh (by omega), IntKind.wrap_u32']
  unfold fnvStep; omega

set_option maxRecDepth 100000 in
set_option maxHeartbeats 1000000 in
theorem of_any (t i : Int) (s : ByteArray) (n : Nat) (w : World) (hs : s.size ≤ 1000) (hn : n ≤ 1000) : Calls Try.prog 9 #[vagg t i s, .int .i64 n] w fun e w' => e = .returned (.int .i64 ((partV (t, i, s) n : Nat) : Int)) ∧ Later w w' := by
  obtain ⟨w1, hw1⟩ : ∃ x : World, w.alloc (.cells #[.int .i64 t, .int .i64 i, .string s] 40) = x := ⟨_, rfl⟩
  have l1 : Later w w1 := hw1 ▸ Later.new w _
  have HL1 := Lib.hid l1
  have HW1 := Lib.hid hw1
  by_cases h2 : n < 2
  · have h2i : (n : Int) < 2 := by omega
    have HP := Lib.hid (show partV (t, i, s) n = 0 from by unfold partV; rw [if_pos h2])
    clear l1 hw1 h2
    go_enter Try.func9, Try.ntmps9
    go_wp2_with fail
    go_ret
    rw [HP.out, HW1.out]
    exact ⟨rfl, HL1.out⟩
  · have h2i : ¬ (n : Int) < 2 := by omega
    have HP := Lib.hid (show partV (t, i, s) n = fnv (speltV t i s) % n from by unfold partV; rw [if_neg h2])
    have HV := Lib.hid (speltV_lt t i s)
    have hlen := speltV_len t i s hs
    have HC := Lib.hid (spelt_any t i s w1 hs)
    generalize speltV t i s = L at HP HV hlen HC
    generalize partV (t, i, s) n = pv at HP
    have hb : Blk w1 w.heap.size #[.int .i64 t, .int .i64 i, .string s] 40 := hw1 ▸ Blk.new w _ _ _ rfl
    have a0 := hb.cell 0 _ rfl
    have a1 := hb.cell 1 _ rfl
    have a2 := hb.cell 2 _ rfl
    clear l1 hw1 h2 hb hs
    go_enter Try.func9, Try.ntmps9
    go_wp2_with fail
    rw [HW1.out]
    refine HC.out.mono ?_
    rintro e w2 ⟨A, c, rfl, o2, b2, n2⟩
    have HR := Lib.hid (Rd.own o2)
    have HL2 := Lib.hid (HL1.out.trans (Later.of b2))
    clear o2 b2 n2 HC a0 a1 a2
    go_wp2_with fail
    have HF0 := Lib.hid (show fnv (L.take 0) = 2166136261 from rfl)
    go_loopw [13, 5] (fun iv hv wr => ∃ k : Nat, k ≤ L.length ∧ iv = .int .i64 k ∧ hv = .int .u32 ((fnv (L.take k) : Nat) : Int) ∧ w2 = wr) (fun i _ _ => L.length - (intOf i).toNat)
    case atStart => exact ⟨0, Nat.zero_le _, rfl, rfl, rfl⟩
    case round =>
      obtain ⟨k, hk, rfl, rfl, rfl⟩ := hrel
      by_cases hlt : k < L.length
      · obtain ⟨b, off, rfl, _, c0⟩ := HR.out.at_ (k := k) (by rw [ints_length]; exact hlt)
        have hx : (ints .u8 L)[k]'(by rw [ints_length]; exact hlt) = .int .u8 ((L[k] : Nat) : Int) := by simp [ints]
        rw [hx] at c0
        have h256 := HV.out _ (List.getElem_mem hlt)
        have HT := Lib.hid (fnv_take L k hlt)
        have h32 := fnv_lt (L.take k)
        have HS := Lib.hid (fnv_step32 (fnv (L.take k)) L[k] h32 h256)
        generalize fnv (L.take k) = f at HT HS h32
        generalize L[k] = x at c0 HT HS h256
        have hw1 : IntKind.u32.wrap (x : Int) = (x : Int) := by rw [IntKind.wrap_u32']; omega
        have hs := HS.out
        clear hx
        go_wp2_with fail
        go_roundw
        all_goals first
          | exact ⟨k + 1, hlt, by go_num, by rw [HT.out], by first | rfl | trivial⟩
          | (simp [intOf]; omega)
      · have hkn : k = L.length := by omega
        have HX := Lib.hid (show fnv (L.take k) = fnv L from by rw [hkn, List.take_length])
        rw [HX.out]
        have hf := fnv_lt L
        have hwn : IntKind.u64.wrap (n : Int) = (n : Int) := by rw [IntKind.wrap_u64]; omega
        generalize fnv L = f at HP hf HX
        have hwf : IntKind.u64.wrap (f : Int) = (f : Int) := by rw [IntKind.wrap_u64]; omega
        have hmo : (f : Int).tmod (n : Int) = ((f % n : Nat) : Int) := by rw [Int.tmod_eq_emod_of_nonneg (by omega)]; simp
        have hn0 : ((n : Int) == 0) = false := by simp; omega
        have hlm : f % n < n := Nat.mod_lt _ (by omega)
        have hwr : IntKind.i64.wrap ((f % n : Nat) : Int) = ((f % n : Nat) : Int) := IntWalk.i64_in _ ⟨by omega, by omega⟩
        go_wp2_with fail
        go_ret
        rw [HP.out]
        exact ⟨rfl, HL2.out⟩

theorem u64_step (h b : Nat) (hh : h < 4294967296) (hb : b < 256) : IntKind.u64.wrap (bits .xor .u64 (h : Int) (b : Int) * 16777619) % 4294967296 = ((fnvStep h b : Nat) : Int) := by
  have hx : h ^^^ b < 2 ^ 32 := Nat.xor_lt_two_pow hh (by omega)
  rw [bits_xor_u64_nat h b (by omega) (by omega), IntKind.wrap_u64]
  unfold fnvStep; omega

set_option maxRecDepth 100000 in
set_option maxHeartbeats 1000000 in
theorem refPart_none (i : Int) (s : ByteArray) (n : Nat) (w : World) (h2 : 2 ≤ n) (hn : n ≤ 1000) : Calls Try.prog 10 #[vagg 0 i s, .int .i64 n] w fun e w' => e = .returned (.int .i64 ((partV (0, i, s) n : Nat) : Int)) ∧ Later w w' := by
  have h2i : ¬ (n : Int) < 2 := by omega
  have HP := Lib.hid (show partV (0, i, s) n = fnv [0] % n from by unfold partV speltV; rw [if_neg (by omega)]; rfl)
  have HS1 := Lib.hid (show fnv [0] = fnvStep 2166136261 0 from rfl)
  have hs := u64_step 2166136261 0 (by omega) (by omega)
  have hl := fnv_lt [0]
  obtain ⟨w2, hw2⟩ : ∃ x : World, (w.alloc (.cells #[.int .i64 0, .int .i64 i, .string s] 40)).alloc (.cells #[.int .u8 0] 5) = x := ⟨_, rfl⟩
  have HL2 := Lib.hid (show Later w w2 from hw2 ▸ (Later.new _ _).alloc _)
  have hb : Blk w2 (w.heap.size + 1) #[.int .u8 0] 5 := hw2 ▸ Blk.new _ _ _ _ (by simp)
  have c0 := hb.cell 0 _ rfl
  have HW2 := Lib.hid hw2
  clear hw2 hb
  go_enter Try.func10, Try.ntmps10
  go_wp2_with fail
  rw [HW2.out]
  go_loopw [6, 7] (fun hv iv wr => ∃ k : Nat, k ≤ 1 ∧ iv = .int .i64 k ∧ hv = .int .u64 ((fnv (([0] : List Nat).take k) : Nat) : Int) ∧ w2 = wr) (fun _ i _ => 1 - (intOf i).toNat)
  case atStart => exact ⟨0, Nat.zero_le _, rfl, rfl, rfl⟩
  case round =>
    obtain ⟨k, hk, rfl, rfl, rfl⟩ := hrel
    obtain rfl | rfl : k = 0 ∨ k = 1 := by omega
    · have hs2 : (IntKind.u64.wrap (bits BinOp.xor IntKind.u64 ((fnv (([0] : List Nat).take 0) : Nat) : Int) 0 * 16777619)).tmod 4294967296 = ((fnv (([0] : List Nat).take 1) : Nat) : Int) := by
        rw [Int.tmod_eq_emod_of_nonneg (by rw [IntKind.wrap_u64]; omega)]; exact hs
      generalize ((fnv (([0] : List Nat).take 0) : Nat) : Int) = f at hs2
      go_wp2_with fail
      go_roundw
      all_goals first
        | exact ⟨1, by omega, rfl, rfl, by first | rfl | trivial⟩
        | (simp [intOf]; done)
        | trace_state
    · rw [show fnv (([0] : List Nat).take 1) = fnv [0] from rfl]
      have hwn : IntKind.u64.wrap (n : Int) = (n : Int) := by rw [IntKind.wrap_u64]; omega
      generalize fnv [0] = f at HP hl HS1
      have hmo : (f : Int).tmod (n : Int) = ((f % n : Nat) : Int) := by rw [Int.tmod_eq_emod_of_nonneg (by omega)]; simp
      have hn0 : ((n : Int) == 0) = false := by simp; omega
      have hlm : f % n < n := Nat.mod_lt _ (by omega)
      have hwr : IntKind.i64.wrap ((f % n : Nat) : Int) = ((f % n : Nat) : Int) := IntWalk.i64_in _ ⟨by omega, by omega⟩
      go_wp2_with fail
      go_ret
      rw [HP.out]
      exact ⟨rfl, HL2.out⟩
end Go.Proofs.Ytphiggjgapaaiaa
