/- Walks of package plain: read, Take. -/
import Derived.Test.YtifejanbgobngaaDoorPlainA
namespace Go.Proofs.YtifejanbgobngaaDoor
open Go.RowKit
set_option linter.unusedVariables false

theorem info_v : (Tryd.prog.info? 26).map (fun i => (i.zero, i.size, i.bytes)) = some (some (vagg 0 0 ⟨#[]⟩), 3, 32) := by kernel_rfl
theorem Blk.has {w : World} {g : Nat} {cs : List Value} {t : TypeId} (h : Blk w g cs.toArray t) : Has w (some ⟨g, 0, none⟩) cs :=
  .inr ⟨g, 0, rfl, h.lt, fun k v hv => by rw [Nat.zero_add]; exact h.cell k v (by simpa using hv)⟩
theorem readP_none {t : Int} {n : Nat} {b : List Nat} (h : takeC t b = none) : readP t (n + 1) b = none := by unfold readP; rw [h]
theorem readP_some {t : Int} {n : Nat} {b : List Nat} {i : Int} {s : List Nat} {k : Nat} (h : takeC t b = some (i, s, k)) : readP t (n + 1) b = (readP t n (b.drop k)).map fun l => (t, i, bstr s) :: l := by
  conv => lhs; unfold readP
  rw [h]
theorem map_step {o : Option (List Val3)} (d : List Val3) (x : Val3) : (o.map fun l => x :: l).map (fun l => d ++ l) = o.map fun l => (d ++ [x]) ++ l := by
  cases o with
  | none => rfl
  | some l => simp
/-- The values of type t, n of them, that are just these bytes. -/
def takeP (t n : Int) (b : List Nat) : Option (List Val3) := if (1 ≤ t ∧ t ≤ 4) ∧ 0 ≤ n ∧ n ≤ 1000 then readP t n.toNat b else none

set_option maxRecDepth 100000 in
set_option maxHeartbeats 2000000 in
theorem plainRead_yes (t : Int) (n : Nat) (A : Option Addr) (c : Nat) (b : List Nat) (w : World) (hs : S6 w) (ht : 1 ≤ t ∧ t ≤ 4) (hn : n ≤ 1000) (hr : Has w A (ints .u8 b)) (h256 : ∀ x ∈ b, x < 256) (hb : b.length ≤ 1000000) (hbc : b.length ≤ c) (hc : c ≤ 9223372036854775807) :
    Calls Tryd.prog 37 #[.int .i64 t, .int .i64 n, .slice A b.length c] w (WritesV (readP t n b) w) := by
  have hif : Tryd.prog.isIface 50 = true := by kernel_rfl
  have HC := Lib.hid (count_yes t n w ht (by omega))
  obtain ⟨o, ho⟩ : ∃ o, o = readP t n b := ⟨_, rfl⟩
  rw [← ho]
  have HT := Lib.hid ht
  have REL := Lib.hid (show o = (readP t (n - 0) b).map (fun l => [] ++ l) by rw [ho]; simp)
  clear ht ho
  go_enter Tryd.func37, Tryd.ntmps37
  go_wp2_with (go_at_call 51; refine HC.out.mono ?_; rintro e w' ⟨rfl, rfl⟩)
  clear HC
  go_loopw [9, 2, 21] (fun lv bv i wr => ∃ (B : Option Addr) (cb : Nat) (rest : List Nat) (L : Option Addr) (cl k : Nat) (done : List Val3), k ≤ n ∧ i = .int .i64 k ∧ bv = .slice B rest.length cb ∧ lv = .slice L k cl ∧ Has w B (ints .u8 rest) ∧ (∀ x ∈ rest, x < 256) ∧ rest.length ≤ 1000000 ∧ rest.length ≤ cb ∧ cb ≤ 9223372036854775807 ∧ wr.ownsRow w.heap.size 26 3 (.slice L k cl) k (fl done) ∧ done.length = k ∧ o = (readP t (n - k) rest).map (fun l => done ++ l) ∧ Later w wr) (fun _ _ i _ => n - (intOf i).toNat)
  case atStart => exact ⟨A, c, b, none, 0, 0, [], Nat.zero_le _, rfl, rfl, rfl, hr, h256, hb, hbc, hc, ownG_nil _ _ _ _, rfl, REL.out, Later.refl _⟩
  case round =>
    obtain ⟨B, cb, rest, L, cl, k, done, hk, rfl, rfl, rfl, hrest, hr256, hrl, hrc, hcb, hown, hdl, hrel, lat⟩ := hrel
    clear hr h256 hb hbc hc REL
    by_cases hlt : k < n
    · have HTK := Lib.hid (cellTake_any t HT.out B cb rest wr (hs.later lat) (hrest.later lat) hr256 hrl hrc hcb)
      obtain ⟨j, hj⟩ : ∃ j, n - k = j + 1 := ⟨n - k - 1, by omega⟩
      have hj2 : n - (k + 1) = j := by omega
      rw [hj] at hrel
      have HREL := Lib.hid hrel
      have HOWN := Lib.hid hown
      have HREST := Lib.hid hrest
      have HLAT := Lib.hid lat
      have HDL := Lib.hid hdl
      have H256 := Lib.hid hr256
      have HJ := Lib.hid hj2
      have HNCK := Lib.hid hj
      clear hrel hown hrest lat hdl hr256 hj hj2
      go_wp2_with fail
      refine HTK.out.mono ?_
      rintro e w2 ⟨⟨hT, p, rfl⟩ | ⟨i, s, m, hT, rfl⟩, l2⟩
      · have HO := Lib.hid (show o = none by rw [HREL.out, readP_none hT]; rfl)
        have heq := fun w => run_eql_iface_nil (P := Tryd.prog) (w := w) 50 hif 90 (.pointer (some p))
        have HL2 := Lib.hid (HLAT.out.trans l2)
        clear hT l2 HREL HTK
        go_wp2_with (go_at_call 53; refine (at_w _ _ _ _).mono ?_; rintro e w3 ⟨q, rfl, l3⟩)
        go_ret2
        exact ⟨.inl ⟨HO.out, q, rfl⟩, (HL2.out.alloc _).trans l3⟩
      · have HO := Lib.hid (show o = (readP t (n - (k + 1)) (rest.drop m)).map (fun l => (done ++ [(t, i, bstr s)]) ++ l) by rw [HREL.out, readP_some hT, map_step, HJ.out])
        obtain ⟨_, hm2, hi64, hs256⟩ := readC_lt H256.out (takeC_read hT).1
        obtain ⟨S, hS⟩ : ∃ S, S = bstr s := ⟨_, rfl⟩
        rw [← hS] at HO ⊢
        have R2 := Lib.hid HREST.out
        have OWN := Lib.hid (own_later HOWN.out l2)
        have HL2 := Lib.hid (HLAT.out.trans l2)
        have HAS := Lib.hid ((Blk.new (w2.alloc (.cells #[.int .i64 t, .int .i64 i, .string S] 26)) (fl [(t, i, S)]).toArray 26 (w2.heap.size + 1) (by simp)).has)
        clear hT l2 HREL HTK hS hi64 hs256 HREST HOWN HLAT
        go_wp2_with (at_builtin; refine wpList_append_g _ rfl (.tmp 36) (.tmp 38) 23 rfl w.heap.size 26 (vagg 0 0 ⟨#[]⟩) 3 32 Tryd.underlying23 info_v rfl (by decide) _ k (fl done) rfl ((OWN.out.alloc _).alloc _) _ 1 1 (fl [(t, i, S)]) rfl HAS.out (by rfl) (by intro h; cases h) (fl_one _) (by unfold maxLen; omega) (by omega) ?_ ?_; (exact ((HL2.out.alloc _).alloc _).size); intro A2 c2 w6 o2 g2 b2 n2; have HO2 := Lib.hid o2; have HB6 := Lib.hid b2; have HN2 := Lib.hid n2; clear o2 g2 b2 n2)
        have LL := Lib.hid (Later.of ((((HL2.out.alloc (.cells #[.int .i64 t, .int .i64 i, .string S] 26)).alloc (.cells (fl [(t, i, S)]).toArray 26)).below).trans HB6.out))
        have hlen : (rest.drop m).length = rest.length - m := List.length_drop
        have OK := Lib.hid (show (fl (done ++ [(t, i, S)])) = fl done ++ fl [(t, i, S)] from fl_append _ _)
        have DL := Lib.hid (show (done ++ [(t, i, S)]).length = k + 1 by rw [List.length_append, HDL.out]; rfl)
        have D256 := Lib.hid (fun x (hx : x ∈ rest.drop m) => H256.out x (List.mem_of_mem_drop hx))
        by_cases hcm : cb = m
        · subst hcm
          have hr0 : rest.drop cb = [] := List.drop_of_length_le hrc
          go_wp2_with fail
          go_roundw
          case rel =>
            refine ⟨_, _, rest.drop cb, A2, c2, k + 1, hlt, by simp, ⟨rfl, by rw [hr0]; rfl, rfl⟩, ⟨rfl, rfl, rfl⟩, by rw [hr0]; exact Has.nil_, D256.out, by omega, by rw [hr0]; exact Nat.zero_le _, by decide, done ++ [(t, i, S)], by rw [OK.out]; exact HO2.out, DL.out, HO.out, LL.out⟩
          case measure => simp [intOf]; omega
        · rcases B with _ | ⟨bb, off, inn⟩
          · exfalso
            rcases R2.out with h | ⟨_, _, h, _⟩
            · have : rest.length = 0 := by have := congrArg List.length h; rw [ints_length] at this; exact this
              omega
            · cases h
          · obtain rfl : inn = none := by
              rcases R2.out with h | ⟨_, _, h, _⟩
              · have : rest.length = 0 := by have := congrArg List.length h; rw [ints_length] at this; exact this
                omega
              · injection h with h; injection h
            have HD := Lib.hid (show Has w (some ⟨bb, off + m, none⟩) (ints .u8 (rest.drop m)) from by have h := R2.out.drop m; rw [show (ints .u8 rest).drop m = ints .u8 (rest.drop m) by simp [ints, List.map_drop]] at h; exact h)
            go_wp2_with fail
            go_roundw
            case rel =>
              refine ⟨_, _, rest.drop m, A2, c2, k + 1, hlt, by simp, ⟨rfl, ?_, rfl⟩, ⟨rfl, rfl, rfl⟩, ?_, D256.out, by omega, ?_, ?_, done ++ [(t, i, S)], by rw [OK.out]; exact HO2.out, DL.out, HO.out, LL.out⟩
              · rw [hlen]
              · exact HD.out
              · rw [hlen]; omega
              · omega
            case measure => simp [intOf]; omega
    · obtain rfl : k = n := by omega
      rw [Nat.sub_self] at hrel
      obtain ⟨sa, hsp⟩ := (hs.later lat).spare
      have HLAT := Lib.hid lat
      have HREL := Lib.hid hrel
      have HHAS := Lib.hid (Has.ownG hown)
      have HDL := Lib.hid hdl
      by_cases hr0 : 0 < rest.length
      · have HO := Lib.hid (show o = none by
          rw [hrel]
          match rest, hr0 with
          | x :: r, _ => rfl)
        clear hrel lat hown hdl hs hrest hr256
        go_wp2_with (go_at_call 53; refine (at_l _ _ _ _).mono ?_; rintro e w3 ⟨q, rfl, l3⟩)
        go_ret2
        exact ⟨.inl ⟨HO.out, q, rfl⟩, HLAT.out.trans l3⟩
      · obtain rfl : rest = [] := List.eq_nil_of_length_eq_zero (by omega)
        have HO := Lib.hid (show o = some done by rw [hrel]; show some (done ++ []) = _; rw [List.append_nil])
        clear hrel lat hown hdl hs hrest hr256
        go_wp2_with fail
        go_ret2
        refine ⟨.inr ⟨done, L, cl, HO.out, ?_, HHAS.out⟩, HLAT.out⟩
        rw [HDL.out]
        rfl

set_option maxRecDepth 100000 in
theorem plainRead_no (t n : Int) (A : Option Addr) (m c : Nat) (w : World) (hs : S6 w) (h : ¬ ((1 ≤ t ∧ t ≤ 4) ∧ 0 ≤ n ∧ n ≤ 1000)) :
    Calls Tryd.prog 37 #[.int .i64 t, .int .i64 n, .slice A m c] w (WritesV none w) := by
  have hif : Tryd.prog.isIface 50 = true := by kernel_rfl
  have HA := Lib.hid (count_no t n w h hs.type hs.bound)
  clear hs h
  go_enter Tryd.func37, Tryd.ntmps37
  go_wp2_with fail
  refine HA.out.mono ?_
  rintro e w1 ⟨v, rfl, ⟨p, rfl⟩, l1⟩
  have heq := run_eql_iface_nil (P := Tryd.prog) (w := w1) 50 hif 90 (.pointer (some p))
  go_wp2_with fail
  go_ret2
  exact ⟨.inl ⟨rfl, p, rfl⟩, l1⟩

theorem plainRead_any (t n : Int) (A : Option Addr) (c : Nat) (b : List Nat) (w : World) (hs : S6 w) (hr : Has w A (ints .u8 b)) (h256 : ∀ x ∈ b, x < 256) (hb : b.length ≤ 1000000) (hbc : b.length ≤ c) (hc : c ≤ 9223372036854775807) :
    Calls Tryd.prog 37 #[.int .i64 t, .int .i64 n, .slice A b.length c] w (WritesV (takeP t n b) w) := by
  unfold takeP
  by_cases h : (1 ≤ t ∧ t ≤ 4) ∧ 0 ≤ n ∧ n ≤ 1000
  · rw [if_pos h]
    obtain ⟨m, rfl⟩ : ∃ m : Nat, n = (m : Int) := ⟨n.toNat, by omega⟩
    exact plainRead_yes t m A c b w hs h.1 (by omega) hr h256 hb hbc hc
  · rw [if_neg h]; exact plainRead_no t n A _ c w hs h

set_option maxRecDepth 100000 in
theorem plainTake_any (t n : Int) (A : Option Addr) (c : Nat) (b : List Nat) (w : World) (hs : S6 w) (hr : Has w A (ints .u8 b)) (h256 : ∀ x ∈ b, x < 256) (hb : b.length ≤ 1000000) (hbc : b.length ≤ c) (hc : c ≤ 9223372036854775807) :
    Calls Tryd.prog 17 #[.int .i64 t, .int .i64 n, .slice A b.length c] w (PutsV (takeP t n b) w) := by
  have HC := Lib.hid (plainRead_any t n A c b w hs hr h256 hb hbc hc)
  clear hs hr h256 hb hbc hc
  go_enter Tryd.func17, Tryd.ntmps17
  go_wp2_with fail
  refine HC.out.mono ?_
  rintro e w1 ⟨⟨ho, p, rfl⟩ | ⟨l, B, cb, ho, rfl, h1⟩, l1⟩
  · go_wp2_with (go_at_call 36; refine (listV_no _ _ _ p _).mono ?_; rintro e w' ⟨rfl, rfl⟩)
    go_ret2
    exact ⟨.inl ⟨ho, rfl⟩, l1⟩
  · have H := Lib.hid (show PutsV (takeP t n b) w (.returned (.tuple #[.slice B l.length cb, .bool true])) w1 from ⟨.inr ⟨l, B, cb, ho, rfl, h1⟩, l1⟩)
    clear ho h1 l1
    go_wp2_with (go_at_call 36; refine (listV_yes _ _ _ _).mono ?_; rintro e w' ⟨rfl, rfl⟩)
    go_ret2
    exact H.out

/-- What the laws ask of the bytes. -/
theorem putP_some {t : Int} {l : List Val3} (ht : 1 ≤ t ∧ t ≤ 4) (ho : OkL t l) : ∃ b, putP t l = some b := ⟨plainB l, by unfold putP; rw [if_pos ⟨ht, ho⟩]⟩
theorem putP_is {t : Int} {l : List Val3} {b : List Nat} (h : putP t l = some b) : (1 ≤ t ∧ t ≤ 4) ∧ OkL t l ∧ b = plainB l := by
  unfold putP at h
  split at h
  · rename_i hc; cases h; exact ⟨hc.1, hc.2, rfl⟩
  · cases h
theorem putP_lt {t : Int} {l : List Val3} {b : List Nat} (ho : OkL t l) (h64 : All64 l) (h : putP t l = some b) : ∀ x ∈ b, x < 256 := by
  obtain ⟨_, _, rfl⟩ := putP_is h; exact plainB_lt ho h64
theorem putP_le {t : Int} {l : List Val3} {b : List Nat} (ho : OkL t l) (h : putP t l = some b) : b.length ≤ l.length * 21 := by
  obtain ⟨_, _, rfl⟩ := putP_is h; exact plainB_le ho
theorem takeP_put {t : Int} (ht : 1 ≤ t ∧ t ≤ 4) {l : List Val3} (ho : OkL t l) (h64 : All64 l) (hl : l.length ≤ 1000) {b : List Nat} (h : putP t l = some b) : takeP t l.length b = some l := by
  obtain ⟨_, _, rfl⟩ := putP_is h
  unfold takeP
  rw [if_pos ⟨ht, by omega, by omega⟩]
  exact readP_put ht l ho h64
theorem takeP_none {t : Int} (ht : 1 ≤ t ∧ t ≤ 4) {l : List Val3} (ho : OkL t l) (h64 : All64 l) {b c d : List Nat} (h256 : ∀ x ∈ b ++ c, x < 256) (hc : c ≠ []) (h : (putP t l = some b ∧ d = b ++ c) ∨ (putP t l = some (b ++ c) ∧ d = b)) : takeP t l.length d = none := by
  unfold takeP
  split
  · rw [show ((l.length : Nat) : Int).toNat = l.length from rfl]
    cases hd : readP t l.length d with
    | none => rfl
    | some m =>
      exfalso
      rcases h with ⟨h, rfl⟩ | ⟨h, rfl⟩
      · obtain ⟨_, _, rfl⟩ := putP_is h
        exact hc (readP_prefix ht _ _ _ l m h256 (readP_put ht l ho h64) hd)
      · obtain ⟨_, _, he⟩ := putP_is h
        refine hc (readP_prefix ht _ _ _ m l h256 hd ?_)
        rw [he]; exact readP_put ht l ho h64
  · rfl
theorem takeP_more {t : Int} (ht : 1 ≤ t ∧ t ≤ 4) {l : List Val3} (ho : OkL t l) (h64 : All64 l) {b : List Nat} (h : putP t l = some b) {x : Nat} (hx : x < 256) : takeP t l.length (b ++ [x]) = none :=
  takeP_none ht ho h64 (b := b) (c := [x]) (fun y hy => by
    rcases List.mem_append.1 hy with hy | hy
    · exact putP_lt ho h64 h y hy
    · rw [List.mem_singleton] at hy; omega) (by simp) (.inl ⟨h, rfl⟩)
theorem takeP_cut {t : Int} (ht : 1 ≤ t ∧ t ≤ 4) {l : List Val3} (ho : OkL t l) (h64 : All64 l) {b : List Nat} (h : putP t l = some b) {q : Nat} (hq : q < b.length) : takeP t l.length (b.take q) = none :=
  takeP_none ht ho h64 (b := b.take q) (c := b.drop q) (fun y hy => by rw [List.take_append_drop] at hy; exact putP_lt ho h64 h y hy) (fun e => by have := congrArg List.length e; rw [List.length_drop] at this; simp at this; omega) (.inr ⟨by rw [List.take_append_drop]; exact h, rfl⟩)
end Go.Proofs.YtifejanbgobngaaDoor
