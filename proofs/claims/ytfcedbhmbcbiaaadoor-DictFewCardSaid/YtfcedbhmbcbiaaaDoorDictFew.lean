/- The walk of DictFew. -/
import Derived.Test.YtfcedbhmbcbiaaaDoorDictLaw
import Derived.Test.YtfcedbhmbcbiaaaDoorBools
import Derived.BigQuiet
namespace Go.Proofs.YtfcedbhmbcbiaaaDoor
open Go.RowKit
set_option linter.unusedVariables false

def few (x : Bool) : Val3 := (4, 0, if x then ⟨#[97, 110, 111, 116, 104, 101, 114, 45, 116, 101, 120, 116, 45, 111, 102, 45, 116, 104, 97, 116]⟩ else ⟨#[116, 119, 101, 110, 116, 121, 45, 98, 121, 116, 101, 115, 45, 111, 102, 45, 116, 101, 120, 116]⟩)
theorem few_is (x : Bool) : (few x).1 = 4 ∧ MayV (few x).1 (few x).2.1 (few x).2.2.size := by cases x <;> exact ⟨rfl, by decide⟩
def fewL (l : List Bool) : List Val3 := l.map few
theorem fewL_ok (l : List Bool) : OkL 4 (fewL l) := fun v hv => by obtain ⟨x, _, rfl⟩ := List.mem_map.1 hv; exact few_is x
theorem fewL_64 (l : List Bool) : All64 (fewL l) := fun v hv => by
  obtain ⟨x, _, rfl⟩ := List.mem_map.1 hv
  unfold In64
  cases x <;> decide
theorem few_asc : Asc [few true, few false] := by
  unfold Asc
  refine List.pairwise_cons.2 ⟨fun z hz => ?_, List.pairwise_singleton _ _⟩
  rw [List.mem_singleton] at hz
  subst hz
  decide
theorem few_one (l : List Bool) (x : Bool) (h0 : x ∈ l) (h : l.any (· != x) = false) : wordsOf (fewL l) = [few x] := by
  refine asc_unique (words_asc (by omega) (fewL_ok l)) (List.pairwise_singleton _ _) fun z => ?_
  rw [words_mem (by omega) (fewL_ok l), List.mem_singleton]
  constructor
  · intro hz
    obtain ⟨y, hy, rfl⟩ := List.mem_map.1 hz
    have := List.any_eq_false.1 h y hy
    have : y = x := by simpa using this
    rw [this]
  · intro hz
    rw [hz]
    exact List.mem_map_of_mem h0
theorem few_two (l : List Bool) (x : Bool) (h0 : x ∈ l) (h : l.any (· != x) = true) : wordsOf (fewL l) = [few true, few false] := by
  obtain ⟨y, hy, hne⟩ := List.any_eq_true.1 h
  have hne : y ≠ x := by simpa using hne
  have hall : ∀ z : Bool, z ∈ l := fun z => by
    cases x <;> cases y <;> cases z <;> first | exact h0 | exact hy | exact absurd rfl hne
  refine asc_unique (words_asc (by omega) (fewL_ok l)) few_asc fun z => ?_
  rw [words_mem (by omega) (fewL_ok l)]
  constructor
  · intro hz
    obtain ⟨u, _, rfl⟩ := List.mem_map.1 hz
    cases u <;> simp
  · intro hz
    rcases List.mem_cons.1 hz with rfl | hz
    · exact List.mem_map_of_mem (hall true)
    · rw [List.mem_singleton] at hz
      rw [hz]
      exact List.mem_map_of_mem (hall false)
theorem few_len (l : List Bool) (x : Bool) (h0 : x ∈ l) : (dictB (fewL l)).length = if l.any (· != x) then 43 + (l.length + 7) / 8 else 22 := by
  have hll : (fewL l).length = l.length := List.length_map _
  unfold dictB
  cases h : l.any (· != x) with
  | false =>
    rw [few_one l x h0 h, List.length_append, List.length_append, putBits_len, places_len, hll]
    have h1 : (plainB [few x]).length = 21 := by cases x <;> decide
    have h2 : (putNum [few x].length).length = 1 := by cases x <;> decide
    have h3 : widD [few x].length = 0 := by cases x <;> decide
    rw [h1, h2, h3]
    simp
  | true =>
    rw [few_two l x h0 h, List.length_append, List.length_append, putBits_len, places_len, hll]
    have h1 : (plainB [few true, few false]).length = 42 := by decide
    have h2 : (putNum [few true, few false].length).length = 1 := by decide
    have h3 : widD [few true, few false].length = 1 := by decide
    rw [h1, h2, h3]
    simp
    omega
theorem few_put (l : List Bool) : putT 4 (fewL l) = some (dictB (fewL l)) := by unfold putT; rw [if_pos ⟨by omega, fewL_ok l⟩]

/-- Where the loop stands. -/
def FwInv (l : List Bool) (x0 : Bool) (w : World) (lv bv iv : Value) (wr : World) : Prop :=
  ∃ (L : Option Addr) (cl j : Nat) (bo : Bool), lv = .slice L j cl ∧ bv = .bool bo ∧ bo = (l.take j).any (· != x0) ∧ iv = .int .i64 (j : Int) ∧ j ≤ l.length ∧ wr.ownsRow w.heap.size 34 3 (.slice L j cl) j (fl (fewL (l.take j))) ∧ Later w wr
theorem FwInv.mk {l : List Bool} {x0 : Bool} {w wr : World} (L : Option Addr) (cl m j : Nat) (bo : Bool) (i : Int) (hm : m = j) (hi : i = (j : Int)) (hb : bo = (l.take j).any (· != x0)) (h1 : j ≤ l.length) (h2 : wr.ownsRow w.heap.size 34 3 (.slice L m cl) m (fl (fewL (l.take j)))) (h3 : Later w wr) : FwInv l x0 w (.slice L m cl) (.bool bo) (.int .i64 i) wr := by
  subst hm hi; exact ⟨L, cl, m, bo, rfl, rfl, hb, rfl, h1, h2, h3⟩

set_option maxRecDepth 100000 in
theorem dictFew_long (A : Option Addr) (n c : Nat) (w : World) (hs : S6 w) (h : n < 1 ∨ 200 < n) :
    Calls Tryd.prog 5 #[.slice A n c] w fun e w' => e = .returned (.bool true) ∧ Later w w' := by
  have HB := Lib.hid (begun7_any w hs)
  clear hs
  go_enter Tryd.func5, Tryd.ntmps5
  go_wp2_with fail
  refine HB.out.mono ?_
  rintro e w1 ⟨rfl, l1⟩
  by_cases h1 : n = 0
  · subst h1
    clear h
    go_wp2_with fail
    go_ret
    exact ⟨rfl, l1⟩
  · have h2 : 200 < n := by omega
    have d1 : decide ((n : Int) < 1) = false := by simp; omega
    have d2 : decide ((200 : Int) < (n : Int)) = true := by simp; omega
    clear h
    go_wp2_with fail
    go_ret
    exact ⟨rfl, l1⟩

set_option maxRecDepth 100000 in
set_option maxHeartbeats 4000000 in
theorem dictFew_walk (A : Option Addr) (c : Nat) (l : List Bool) (w : World) (hs : S6 w) (h1 : 1 ≤ l.length) (h2 : l.length ≤ 200) (hr : Has w A (bools l)) :
    Calls Tryd.prog 5 #[.slice A l.length c] w fun e w' => e = .returned (.bool true) ∧ Later w w' := by
  have HB := Lib.hid (begun7_any w hs)
  have HS := Lib.hid hs
  have HR := Lib.hid hr
  obtain ⟨bb, off, rfl, hcell⟩ : ∃ bb off, A = some ⟨bb, off, none⟩ ∧ ∀ k (hk : k < l.length), CellIs w ⟨bb, off + k, none⟩ (.bool l[k]) := by
    rcases hr with h | ⟨bb, off, h, _, hc⟩
    · have h := congrArg List.length h
      rw [bools_length] at h
      have h : l.length = 0 := h
      omega
    · exact ⟨bb, off, h, fun k hk => hc k _ (by simp [bools, hk])⟩
  have HC := Lib.hid hcell
  obtain ⟨n, hn⟩ : ∃ n, n = l.length := ⟨_, rfl⟩
  have HN := Lib.hid hn
  rw [← hn] at h1 h2 ⊢
  have d1 : decide ((n : Int) < 1) = false := by simp; omega
  have d2 : decide ((200 : Int) < (n : Int)) = false := by simp; omega
  have d3 : ¬ n = 0 := by omega
  obtain ⟨x0, hx0⟩ : ∃ x0, x0 = l[0]'(by omega) := ⟨_, rfl⟩
  have HX0 := Lib.hid (show CellIs w ⟨bb, off, none⟩ (.bool x0) by have h := hcell 0 (by omega); rw [← hx0] at h; exact h)
  have HMEM := Lib.hid (show x0 ∈ l by rw [hx0]; exact List.getElem_mem _)
  clear hs hr hcell hn hx0
  go_enter Tryd.func5, Tryd.ntmps5
  go_wp2_with fail
  refine HB.out.mono ?_
  rintro e w1 ⟨rfl, l1⟩
  have HL1 := Lib.hid l1
  clear l1 HB
  go_wp2_with fail
  go_loopw [3, 4, 5] (fun lv bv iv wr => FwInv l x0 w lv bv iv wr) (fun _ _ iv _ => n - (intOf iv).toNat)
  case atStart => exact FwInv.mk none 0 0 0 false 0 rfl rfl rfl (Nat.zero_le _) (ownG_nil _ _ _ _) HL1.out
  case round =>
    obtain ⟨L, cl, j, bo, rfl, rfl, hbo, rfl, hj, hown, lat⟩ := hrel
    by_cases hlt : j < n
    · have hjl : j < l.length := by have := HN.out; omega
      have HCJ := Lib.hid (HC.out j hjl)
      have HTK := Lib.hid (show fewL (l.take (j + 1)) = fewL (l.take j) ++ [few l[j]] by unfold fewL; rw [List.take_succ_eq_append_getElem hjl, List.map_append]; rfl)
      have HAN := Lib.hid (show (l.take (j + 1)).any (· != x0) = (bo || (l[j] != x0)) by rw [List.take_succ_eq_append_getElem hjl, List.any_append, ← hbo]; simp)
      generalize l[j] = x at HCJ HTK HAN
      have HOWN := Lib.hid hown
      have HLAT := Lib.hid lat
      have HJL := Lib.hid hjl
      have hj0 : (0 : Int) ≤ (j : Int) := by omega
      have hj1 : (j : Int) < (n : Int) := by omega
      have hn0 : (0 : Int) < (n : Int) := by omega
      obtain ⟨wa, hwa⟩ : ∃ wa, wa = wr.alloc (.cells #[.int .i64 4, .int .i64 0, .string ⟨#[116, 119, 101, 110, 116, 121, 45, 98, 121, 116, 101, 115, 45, 111, 102, 45, 116, 101, 120, 116]⟩] 34) := ⟨_, rfl⟩
      have LA : Later wr wa := hwa ▸ Later.new _ _
      have BA : Blk wa wr.heap.size #[.int .i64 4, .int .i64 0, .string ⟨#[116, 119, 101, 110, 116, 121, 45, 98, 121, 116, 101, 115, 45, 111, 102, 45, 116, 101, 120, 116]⟩] 34 := hwa ▸ Blk.new wr _ _ _ rfl
      have HLA := Lib.hid LA
      have HBA := Lib.hid BA
      have HWA := Lib.hid hwa
      have ca := (HCJ.out.later (lat.trans LA)).out
      have b2 := BA.cell 2 _ rfl
      have f2 := BA.frozen 2
      rw [hwa] at ca b2 f2
      clear hown lat hjl hbo hj LA BA hwa
      cases x
      case false =>
        have HVV := Lib.hid (show few false = (4, 0, ⟨#[116, 119, 101, 110, 116, 121, 45, 98, 121, 116, 101, 115, 45, 111, 102, 45, 116, 101, 120, 116]⟩) from rfl)
        obtain ⟨wv, hwv⟩ : ∃ wv, wv = wa := ⟨_, rfl⟩
        have LV := Lib.hid (show Later wr wv from hwv ▸ HLA.out)
        have BV := Lib.hid (show Blk wv wr.heap.size #[.int .i64 4, .int .i64 0, .string ⟨#[116, 119, 101, 110, 116, 121, 45, 98, 121, 116, 101, 115, 45, 111, 102, 45, 116, 101, 120, 116]⟩] 34 from hwv ▸ HBA.out)
        have HWV := Lib.hid hwv
        clear hwv
        go_wp2_with fail
        rw [← HWA.out, ← HWV.out]
        have cj := ((HCJ.out.later (HLAT.out.trans LV.out))).drew.out
        have cz := ((HX0.out.later (HLAT.out.trans LV.out))).drew.out
        have cj2 := ((HCJ.out.later (HLAT.out.trans LV.out))).out
        have cz2 := ((HX0.out.later (HLAT.out.trans LV.out))).out
        clear ca b2 f2
        cases bo
        all_goals cases x0
        all_goals go_quiet (fail)
        all_goals obtain ⟨wz, hwz⟩ : ∃ wz, wz = wv.drewN nq := ⟨_, rfl⟩
        all_goals have LZ := Lib.hid (show Later wr wz from hwz ▸ LV.out.drewN nq)
        all_goals have BZ := BV.out.later (show Later wv wz from hwz ▸ (Later.refl wv).drewN nq)
        all_goals rw [← hwz]
        all_goals clear hwz
        all_goals have v0 := BZ.cell 0 _ rfl
        all_goals have v1 := BZ.cell 1 _ rfl
        all_goals have v2 := BZ.cell 2 _ rfl
        all_goals have HAS := Lib.hid ((Blk.new wz (fl [few false]).toArray 34 _ rfl).has)
        all_goals have O2 := Lib.hid ((own_later HOWN.out LZ.out).alloc (.cells (fl [few false]).toArray 34))
        all_goals have LT2 := Lib.hid ((HLAT.out.trans LZ.out).alloc (.cells (fl [few false]).toArray 34))
        all_goals clear BZ cj cz cj2 cz2
        all_goals go_wp2_with (at_builtin; refine wpList_append_g _ rfl (.tmp 43) (.tmp 45) 25 rfl w.heap.size 34 (vagg 0 0 ⟨#[]⟩) 3 32 Tryd.underlying25 info_v rfl (by decide) _ j (fl (fewL (l.take j))) rfl O2.out _ 1 1 (fl [few false]) rfl HAS.out (by rfl) (by intro h; cases h) (fl_one _) (by unfold maxLen; omega) (by omega) LT2.out.size ?_; intro A2 c2 w6 o2 g2 b2 n2; have HO2 := Lib.hid o2; have HB6 := Lib.hid b2; clear o2 g2 b2 n2)
        all_goals go_roundw
        all_goals first
          | exact FwInv.mk A2 c2 _ (j + 1) _ _ rfl (by omega) (by rw [HAN.out]; rfl) HJL.out (by rw [HTK.out, fl_append]; exact HO2.out) (Later.of (LT2.out.below.trans HB6.out))
          | (simp [intOf]; omega)
      case true =>
        have HVV := Lib.hid (show few true = (4, 0, ⟨#[97, 110, 111, 116, 104, 101, 114, 45, 116, 101, 120, 116, 45, 111, 102, 45, 116, 104, 97, 116]⟩) from rfl)
        obtain ⟨wv, hwv⟩ : ∃ wv, wv = wr.alloc (.cells #[.int .i64 4, .int .i64 0, .string ⟨#[97, 110, 111, 116, 104, 101, 114, 45, 116, 101, 120, 116, 45, 111, 102, 45, 116, 104, 97, 116]⟩] 34) := ⟨_, rfl⟩
        have LV := Lib.hid (show Later wr wv from hwv ▸ Later.new _ _)
        have BV := Lib.hid (show Blk wv wr.heap.size #[.int .i64 4, .int .i64 0, .string ⟨#[97, 110, 111, 116, 104, 101, 114, 45, 116, 101, 120, 116, 45, 111, 102, 45, 116, 104, 97, 116]⟩] 34 from hwv ▸ Blk.new wr _ _ _ rfl)
        have HWV := Lib.hid hwv
        clear hwv
        go_wp2_with fail
        rw [← HWV.out]
        have cj := ((HCJ.out.later (HLAT.out.trans LV.out))).drew.out
        have cz := ((HX0.out.later (HLAT.out.trans LV.out))).drew.out
        have cj2 := ((HCJ.out.later (HLAT.out.trans LV.out))).out
        have cz2 := ((HX0.out.later (HLAT.out.trans LV.out))).out
        clear ca b2 f2
        cases bo
        all_goals cases x0
        all_goals go_quiet (fail)
        all_goals obtain ⟨wz, hwz⟩ : ∃ wz, wz = wv.drewN nq := ⟨_, rfl⟩
        all_goals have LZ := Lib.hid (show Later wr wz from hwz ▸ LV.out.drewN nq)
        all_goals have BZ := BV.out.later (show Later wv wz from hwz ▸ (Later.refl wv).drewN nq)
        all_goals rw [← hwz]
        all_goals clear hwz
        all_goals have v0 := BZ.cell 0 _ rfl
        all_goals have v1 := BZ.cell 1 _ rfl
        all_goals have v2 := BZ.cell 2 _ rfl
        all_goals have HAS := Lib.hid ((Blk.new wz (fl [few true]).toArray 34 _ rfl).has)
        all_goals have O2 := Lib.hid ((own_later HOWN.out LZ.out).alloc (.cells (fl [few true]).toArray 34))
        all_goals have LT2 := Lib.hid ((HLAT.out.trans LZ.out).alloc (.cells (fl [few true]).toArray 34))
        all_goals clear BZ cj cz cj2 cz2
        all_goals go_wp2_with (at_builtin; refine wpList_append_g _ rfl (.tmp 43) (.tmp 45) 25 rfl w.heap.size 34 (vagg 0 0 ⟨#[]⟩) 3 32 Tryd.underlying25 info_v rfl (by decide) _ j (fl (fewL (l.take j))) rfl O2.out _ 1 1 (fl [few true]) rfl HAS.out (by rfl) (by intro h; cases h) (fl_one _) (by unfold maxLen; omega) (by omega) LT2.out.size ?_; intro A2 c2 w6 o2 g2 b2 n2; have HO2 := Lib.hid o2; have HB6 := Lib.hid b2; clear o2 g2 b2 n2)
        all_goals go_roundw
        all_goals first
          | exact FwInv.mk A2 c2 _ (j + 1) _ _ rfl (by omega) (by rw [HAN.out]; rfl) HJL.out (by rw [HTK.out, fl_append]; exact HO2.out) (Later.of (LT2.out.below.trans HB6.out))
          | (simp [intOf]; omega)
    · have hjn : j = n := by have := HN.out; omega
      rw [List.take_of_length_le (by have := HN.out; omega)] at hbo hown
      have HLEN := Lib.hid (few_len l x0 HMEM.out)
      rw [← hbo, ← HN.out] at HLEN
      have HLAT := Lib.hid lat
      have HP := Lib.hid (dictPut_any 4 L cl (fewL l) wr (HS.out.later lat) (by unfold fewL; rw [List.length_map]; have := HN.out; omega) (Has.ownG hown) (fewL_64 l))
      rw [show (fewL l).length = j by unfold fewL; rw [List.length_map]; have := HN.out; omega] at HP
      clear hown lat hbo hjn
      go_wp2_with fail
      refine HP.out.mono ?_
      intro e w2 h
      obtain ⟨P, pc, rfl, _, _, _, _, l2⟩ := h.yes (few_put l)
      have HL2 := Lib.hid (HLAT.out.trans l2)
      obtain ⟨pl, hpl⟩ : ∃ pl, pl = (dictB (fewL l)).length := ⟨_, rfl⟩
      rw [← hpl] at HLEN ⊢
      have hjn2 : (j : Int) + 7 ≤ 1000 := by have := HN.out; omega
      clear h l2 HP hpl
      cases bo
      · have hq : pl = 22 := HLEN.out
        subst hq
        go_wp2_with fail
        go_ret
        exact ⟨rfl, HL2.out⟩
      · have hq : pl = 43 + (n + 7) / 8 := HLEN.out
        have hjn : j = n := by have := HN.out; omega
        subst hjn
        obtain ⟨q, hqq⟩ : ∃ q, q = (j + 7) / 8 := ⟨_, rfl⟩
        have hqi : ((j : Int) + 7) / 8 = (q : Int) := by omega
        have hqt : ((j : Int) + 7).tdiv 8 = (q : Int) := by rw [Int.tdiv_eq_ediv_of_nonneg (by omega)]; omega
        have hq9 : q ≤ 100 := by omega
        rw [← hqq] at hq
        subst hq
        clear hqq
        go_wp2_with fail
        go_ret
        exact ⟨rfl, HL2.out⟩
end Go.Proofs.YtfcedbhmbcbiaaaDoor
