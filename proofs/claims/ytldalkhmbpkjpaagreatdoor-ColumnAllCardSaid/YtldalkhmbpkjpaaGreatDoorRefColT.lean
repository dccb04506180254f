/- Walks of the reference: Decode at any encoding, TakeColumn. -/
import Derived.Test.YtldalkhmbpkjpaaGreatDoorRefCol
import Derived.Test.YtldalkhmbpkjpaaGreatDoorRefDtD
import Derived.RegionTactic
import Derived.BigQuiet
namespace Go.Proofs.YtldalkhmbpkjpaaGreatDoor
open Go.RowKit
set_option linter.unusedVariables false

/-- A column's bytes, taken apart. -/
theorem takeC10_inv {t n : Int} {b : List Nat} (h256 : ∀ x ∈ b, x < 256) {l : List Val3} {u : Int} (h : takeC10 t n b = some (l, u)) :
    ∃ (e f : Nat) (r : List Nat) (x : List Bool) (c : List Nat) (s : List Val3), b = e :: f :: r ∧ u = (e : Int) ∧ usedC (e : Int) t = some (e : Int) ∧ (x.length : Int) = n ∧ ((f = 0 ∧ x = List.replicate n.toNat false ∧ c = r) ∨ (f = 1 ∧ takeN (r.take ((n.toNat + 7) / 8)) n.toNat = some x ∧ c = r.drop ((n.toNat + 7) / 8))) ∧ takeE (e : Int) t ((x.count false : Nat) : Int) c = some s ∧ l = mixL x s ∧ putC (e : Int) t l = some b := by
  obtain ⟨h1, h2, h3, h4, h5, h6⟩ := takeC10_is h256 h
  unfold takeC10 at h
  rw [if_pos ⟨h6, by omega, h5⟩] at h
  unfold readC10 at h
  split at h
  · rename_i e r0
    split at h
    · rename_i hu
      split at h
      · cases h
      · rename_i x c hr
        cases hT : takeE (e : Int) t ((n.toNat - x.count true : Nat) : Int) c with
        | none => rw [hT] at h; cases h
        | some s =>
          rw [hT] at h
          cases h
          have hxl := (readN_is (fun y hy => h256 y (List.mem_cons_of_mem _ hy)) hr).1
          have hcf : n.toNat - x.count true = x.count false := by have := count_ft x; omega
          rw [hcf] at hT
          match r0, hr, h2, h256 with
          | [], hr, h2, h256 => unfold readN at hr; cases hr
          | f :: r, hr, h2, h256 =>
            refine ⟨e, f, r, x, c, s, rfl, rfl, hu, by omega, ?_, hT, rfl, h2⟩
            unfold readN at hr
            simp only at hr
            split at hr
            · rename_i hf
              cases hr
              exact .inl ⟨hf, rfl, rfl⟩
            · split at hr
              · rename_i hf
                split at hr
                · cases hr
                · rename_i y hy
                  split at hr
                  · cases hr
                  · cases hr
                    exact .inr ⟨hf, hy, rfl⟩
              · cases hr
    · cases h
  · cases h
/-- What PutColumn gives back is a column. -/
theorem takeC10_of_put {t : Int} {n e : Nat} (hn : n ≤ 1000) {b : List Nat} {l : List Val3} (hl : l.length = n) (h64 : All64 l) (he : b.head? = some e) (h : putC (e : Int) t l = some b) : takeC10 t n b = some (l, (e : Int)) := by
  obtain ⟨u, c, hu, hs, hf, hc, hb⟩ := putC_is h
  have hue : u = (e : Int) := by
    rw [hb] at he
    unfold headC at he
    rw [List.cons_append] at he
    injection he with he
    have := hs.2.1
    omega
  subst hl
  rw [← hue] at h ⊢
  rw [← hue] at hu
  exact takeC10_put hu h64 hn h
/-- What the reference's Decode gives, whatever the encoding. -/
def decQ (e t n : Int) (q : List Nat) : Option (List Val3) :=
  if 1 ≤ e ∧ e ≤ 5 then takeE e t n q else none
theorem decQ_is {e t n : Int} {q : List Nat} (h256 : ∀ x ∈ q, x < 256) {s : List Val3} (h : decQ e t n q = some s) : All64 s ∧ (s.length : Int) = n := by
  unfold decQ at h
  split at h
  · exact ⟨(takeE_is h256 h).2.1, (takeE_is h256 h).2.2.1⟩
  · cases h
theorem takeC10_eq {t : Int} {n e f : Nat} (hn : n ≤ 1000) {r : List Nat} {x : List Bool} {q : List Nat} (h256 : ∀ y ∈ e :: f :: r, y < 256) (hx : x.length = n) (hq : ∀ y ∈ q, y < 256)
    (h : (f = 0 ∧ x = List.replicate n false ∧ q = r) ∨ (f = 1 ∧ takeN (r.take ((n + 7) / 8)) n = some x ∧ q = r.drop ((n + 7) / 8))) :
    takeC10 t n (e :: f :: r) = (match decQ e t ((x.count false : Nat) : Int) q with
      | none => none
      | some s => if putC (e : Int) t (mixL x s) = some (e :: f :: r) then some (mixL x s, (e : Int)) else none) := by
  have key : ∀ l u, takeC10 t n (e :: f :: r) = some (l, u) → ∃ s, decQ e t ((x.count false : Nat) : Int) q = some s ∧ l = mixL x s ∧ u = (e : Int) ∧ putC (e : Int) t l = some (e :: f :: r) := by
    intro l u hl
    obtain ⟨e', f', r', x', c', s', hb, hu, huse, hxl, hrel, htk, hmix, hput⟩ := takeC10_inv h256 hl
    injection hb with h1 hb
    injection hb with h2 h3
    subst h1 h2 h3
    have hxc : x' = x ∧ c' = q := by
      rw [show ((n : Nat) : Int).toNat = n from rfl] at hrel
      rcases h with ⟨f0, hx0, hq0⟩ | ⟨f1, hx1, hq1⟩ <;> rcases hrel with ⟨g0, gx, gq⟩ | ⟨g1, gx, gq⟩
      · exact ⟨by rw [gx, hx0], by rw [gq, hq0]⟩
      · omega
      · omega
      · rw [gx] at hx1
        injection hx1 with hx1
        exact ⟨hx1, by rw [gq, hq1]⟩
    obtain ⟨rfl, rfl⟩ := hxc
    have hs := usedC_serves huse
    refine ⟨s', ?_, hmix, hu, hput⟩
    unfold decQ
    rw [if_pos ⟨hs.2.1, hs.2.2.1⟩]
    exact htk
  cases hD : decQ e t ((x.count false : Nat) : Int) q with
  | none =>
    cases hT : takeC10 t n (e :: f :: r) with
    | none => rfl
    | some p =>
      obtain ⟨s, hs, _⟩ := key p.1 p.2 hT
      rw [hD] at hs; cases hs
  | some s =>
    simp only
    split
    · rename_i hput
      exact takeC10_of_put hn (by rw [mixL_len]; exact hx) (mixL_64 x s (decQ_is hq hD).1) rfl hput
    · rename_i hput
      cases hT : takeC10 t n (e :: f :: r) with
      | none => rfl
      | some p =>
        obtain ⟨s', hs, hl, _, hp⟩ := key p.1 p.2 hT
        rw [hD] at hs
        injection hs with hs
        subst hs
        rw [hl] at hp
        exact absurd hp hput

set_option maxRecDepth 100000 in
theorem refRead_else (en t n : Int) (A : Option Addr) (m c : Nat) (w : World) (hen : ¬ (1 ≤ en ∧ en ≤ 5)) :
    Calls Tryz.prog 48 #[.int .i64 en, .int .i64 t, .int .i64 n, .slice A m c] w fun e w' => e = .returned (.tuple #[.slice none 0 0, .bool true]) ∧ w = w' := by
  have e1 : (en == 1) = false := by rw [beq_eq_false_iff_ne]; omega
  have e2 : (en == 2) = false := by rw [beq_eq_false_iff_ne]; omega
  have e3 : (en == 3) = false := by rw [beq_eq_false_iff_ne]; omega
  have e4 : (en == 4) = false := by rw [beq_eq_false_iff_ne]; omega
  have e5 : (en == 5) = false := by rw [beq_eq_false_iff_ne]; omega
  clear hen
  go_enter Tryz.func48, Tryz.ntmps48
  go_wp2_with fail
  go_ret2
  exact ⟨rfl, rfl⟩
set_option maxRecDepth 100000 in
theorem refEnc_else (en t : Int) (w : World) (hen : ¬ (1 ≤ en ∧ en ≤ 5)) (ht : 1 ≤ t ∧ t ≤ 4) :
    Calls Tryz.prog 21 #[.int .i64 en, .int .i64 t, .slice none 0 0] w fun e w' => e = .returned (.tuple #[.slice none 0 0, .bool false]) ∧ Later w w' := by
  have e1 : (en == 1) = false := by rw [beq_eq_false_iff_ne]; omega
  have e2 : (en == 2) = false := by rw [beq_eq_false_iff_ne]; omega
  have e3 : (en == 3) = false := by rw [beq_eq_false_iff_ne]; omega
  have e4 : (en == 4) = false := by rw [beq_eq_false_iff_ne]; omega
  have e5 : (en == 5) = false := by rw [beq_eq_false_iff_ne]; omega
  have HT := Lib.hid (show (1 ≤ t ∧ t ≤ 4) ∧ OkL t [] from ⟨ht, fun x hx => by cases hx⟩)
  have HA := Lib.hid (refRight_any t none 0 [] w (by simp) Has.nil_)
  clear hen ht
  go_enter Tryz.func21, Tryz.ntmps21
  go_wp2_with fail
  refine HA.out.mono ?_
  intro e w1 h
  obtain ⟨rfl, l1⟩ := TellsP.yes HT.out (SaysP.tells h)
  clear h
  go_wp2_with fail
  go_ret2
  exact ⟨rfl, l1⟩
set_option maxRecDepth 100000 in
set_option maxHeartbeats 1000000 in
theorem refDec_else (en t n : Int) (A : Option Addr) (m c : Nat) (b : List Nat) (w : World) (hm : m = b.length) (hen : ¬ (1 ≤ en ∧ en ≤ 5)) (ht : 1 ≤ t ∧ t ≤ 4) (hn : 0 ≤ n ∧ n ≤ 1000) (hr : Has w A (ints .u8 b)) (h256 : ∀ x ∈ b, x < 256) :
    Calls Tryz.prog 26 #[.int .i64 en, .int .i64 t, .int .i64 n, .slice A m c] w (TakesV (decQ en t n b) w) := by
  have HQ := Lib.hid (show decQ en t n b = none by unfold decQ; rw [if_neg hen])
  have HIT := Lib.hid (isType_any t w)
  have HT := Lib.hid ht
  have HRD := Lib.hid (fun w => refRead_else en t n A m c w hen)
  have HEN := Lib.hid (fun w => refEnc_else en t w hen ht)
  have HR := Lib.hid hr
  have H256 := Lib.hid h256
  have HM := Lib.hid hm
  have hn0 : ¬ n < 0 := by omega
  have hn1 : ¬ (1000 : Int) < n := by omega
  clear hen ht hr h256 hm hn
  go_enter Tryz.func26, Tryz.ntmps26
  go_wp2_with fail
  refine HIT.out.mono ?_
  intro e w1 h
  obtain ⟨rfl, L1⟩ := TellsP.yes HT.out (SaysP.tells h)
  clear h
  go_wp2_with (go_at_call 48; refine (HRD.out _).mono ?_; rintro e w' ⟨rfl, rfl⟩)
  refine (HEN.out _).mono ?_
  rintro e w3 ⟨rfl, l3⟩
  have L3 := Lib.hid (L1.trans l3)
  clear L1 l3
  go_wp2_with fail
  go_ret2
  exact ⟨.inl ⟨HQ.out, rfl⟩, L3.out⟩

theorem refDec_any (en t n : Int) (A : Option Addr) (m c : Nat) (b : List Nat) (w : World) (hm : m = b.length) (hr : Has w A (ints .u8 b)) (h256 : ∀ x ∈ b, x < 256) (hb : b.length ≤ 1000000) (hbc : m ≤ c) (hc : c ≤ 9223372036854775807) :
    Calls Tryz.prog 26 #[.int .i64 en, .int .i64 t, .int .i64 n, .slice A m c] w (TakesV (decQ en t n b) w) := by
  by_cases h : 1 ≤ en ∧ en ≤ 5
  · unfold decQ
    rw [if_pos h]
    subst hm
    have h5 : en = 1 ∨ en = 2 ∨ en = 3 ∨ en = 4 ∨ en = 5 := by omega
    clear h
    rcases h5 with rfl | rfl | rfl | rfl | rfl
    · exact refDecP_c t n A c b w hr h256 hb hbc hc
    · exact refDecL_c t n A c b w hr h256 hb hbc hc
    · exact refDecT_c t n A c b w hr h256 hb hbc hc
    · exact refDecK_c t n A c b w hr h256 hb hbc hc
    · exact refDecD_c t n A c b w hr h256 hb hbc hc
  · by_cases h2 : (1 ≤ t ∧ t ≤ 4) ∧ 0 ≤ n ∧ n ≤ 1000
    · exact refDec_else en t n A m c b w hm h h2.1 h2.2 hr h256
    · have hq : decQ en t n b = none := by
        unfold decQ
        rw [if_neg h]
      rw [hq]
      exact (refDec_no en t n A m c w h2).mono fun _ _ h => ⟨.inl ⟨rfl, (h.no rfl).1⟩, (h.no rfl).2⟩

/-- Where TakeColumn's second loop stands. -/
def TcInv (x : List Bool) (s : List Val3) (g k : Nat) (w3 : World) (sv lv iv : Value) (wr : World) : Prop :=
  ∃ (S L : Option Addr) (ns cs cl j : Nat) (done sr : List Val3), sv = .slice S ns cs ∧ lv = .slice L j cl ∧ iv = .int .i64 (j : Int) ∧ j ≤ k ∧ ns = sr.length ∧ ns ≤ cs ∧ cs ≤ 9223372036854775807 ∧ (x.drop j).count false = ns ∧ done.length = j ∧ done ++ mixL (x.drop j) sr = mixL x s ∧ Has w3 S (fl sr) ∧ wr.ownsRow g 26 3 (.slice L j cl) j (fl done) ∧ Later w3 wr
theorem TcInv.mk {x : List Bool} {s : List Val3} {g k : Nat} {w3 wr : World} (S L : Option Addr) (ns cs cl j jj : Nat) (done sr : List Val3) (z : Int) (hjj : jj = j) (hz : z = (j : Int)) (h1 : j ≤ k) (h2 : ns = sr.length) (h3 : ns ≤ cs) (h4 : cs ≤ 9223372036854775807) (h5 : (x.drop j).count false = ns) (h6 : done.length = j) (h7 : done ++ mixL (x.drop j) sr = mixL x s) (h8 : Has w3 S (fl sr)) (h9 : wr.ownsRow g 26 3 (.slice L jj cl) jj (fl done)) (h10 : Later w3 wr) : TcInv x s g k w3 (.slice S ns cs) (.slice L jj cl) (.int .i64 z) wr := by
  subst hjj hz; exact ⟨S, L, ns, cs, cl, jj, done, sr, rfl, rfl, rfl, h1, h2, h3, h4, h5, h6, h7, h8, h9, h10⟩

set_option maxRecDepth 100000 in
set_option maxHeartbeats 1500000 in
theorem refTakeColumn_zero (t : Int) (n : Nat) (bb off m c e : Nat) (r : List Nat) (w : World) (hn : n ≤ 1000) (hm : m = r.length + 2) (hr : Has w (some ⟨bb, off, none⟩) (ints .u8 (e :: 0 :: r))) (h256 : ∀ x ∈ e :: 0 :: r, x < 256) (hb : r.length + 2 ≤ 1000000) (hbc : m ≤ c) (hc : c ≤ 9223372036854775807) (hc2 : ¬ c = 2) :
    Calls Tryz.prog 12 #[.int .i64 t, .int .i64 n, .slice (some ⟨bb, off, none⟩) m c] w (TakesCol (takeC10 t n (e :: 0 :: r)) w) := by
  have he := h256 e (List.mem_cons_self ..)
  have H256 := Lib.hid h256
  have HR := Lib.hid hr
  obtain ⟨c0, c1⟩ : w.cell? ⟨bb, off, none⟩ = some (.int .u8 (e : Int)) ∧ w.cell? ⟨bb, off + 1, none⟩ = some (.int .u8 (0 : Int)) := by
    rcases hr with h | ⟨b', o', h, _, hc⟩
    · cases h
    · injection h with h
      injection h with h1 h2
      subst h1 h2
      exact ⟨hc 0 _ rfl, hc 1 _ rfl⟩
  have c1A : (w.alloc (.cells (madeCells #[.bool false] n) 4)).cell? ⟨bb, off + 1, none⟩ = some (.int .u8 (0 : Int)) := (Later.new w _).cell c1
  have HMB := Lib.hid (show m = (e :: 0 :: r).length from hm)
  have hew : IntKind.i64.wrap (e : Int) = (e : Int) := IntWalk.i64_in _ ⟨by omega, by omega⟩
  have hn0 : decide ((n : Int) < 0) = false := decide_eq_false (by omega)
  have hn1 : decide ((1000 : Int) < (n : Int)) = false := decide_eq_false (by omega)
  have hm2 : decide ((m : Int) < 2) = false := decide_eq_false (by omega)
  have i1 : (1 : Int) < (m : Int) := by omega
  have i0 : (0 : Int) < (m : Int) := by omega
  have i2 : (2 : Int) ≤ (m : Int) := by omega
  have i3 : (m : Int) ≤ (c : Int) := by omega
  have i4 : 2 ≤ m := by omega
  have hmk := fun W => run_make_row' (P := Tryz.prog) 46 4 (.bool false) 1 Tryz.underlying46 info_bool rfl .i64 .i64 n (by omega) (by omega) W
  obtain ⟨x, hx⟩ : ∃ x, x = List.replicate n false := ⟨_, rfl⟩
  obtain ⟨q, hq⟩ : ∃ q, q = r := ⟨_, rfl⟩
  obtain ⟨wT, hwT⟩ : ∃ wT, wT = w.alloc (.cells (madeCells #[.bool false] n) 4) := ⟨_, rfl⟩
  obtain ⟨gx, hgx⟩ : ∃ gx, gx = w.heap.size := ⟨_, rfl⟩
  have HWT := Lib.hid hwT
  have HGX := Lib.hid hgx
  have HXL := Lib.hid (show x.length = n by rw [hx]; exact List.length_replicate)
  have HXH := Lib.hid (show Has wT (some ⟨gx, 0, none⟩) (bools x) by rw [hwT, hgx, hx]; exact (Blk.madeB w n).hasB)
  have HLT := Lib.hid (show Later w wT by rw [hwT]; exact Later.new _ _)
  have HQ256 := Lib.hid (show ∀ y ∈ q, y < 256 by rw [hq]; exact fun y hy => h256 y (List.mem_cons_of_mem _ (List.mem_cons_of_mem _ hy)))
  have HEQ := Lib.hid (takeC10_eq (t := t) hn h256 HXL.out HQ256.out (.inl ⟨rfl, hx, hq⟩))
  have HQL := Lib.hid (show m - 2 = q.length by rw [hq]; omega)
  have HQM := Lib.hid (show q.length ≤ 1000000 by rw [hq]; omega)
  have HQC := Lib.hid (show m - 2 ≤ c - 2 by omega)
  have HQX := Lib.hid (show c - 2 ≤ 9223372036854775807 by omega)
  have HN9 := Lib.hid hn
  have HQH := Lib.hid (show Has wT (some ⟨bb, off + 2, none⟩) (ints .u8 q) by rw [hq]; exact (hr.behind 2).later HLT.out)
  obtain ⟨bl, hbl⟩ : ∃ bl, bl = e :: 0 :: r := ⟨_, rfl⟩
  rw [← hbl] at HEQ HR HMB H256 ⊢
  clear hr h256 hx hq hwT hgx hm hb hbc hn he hbl
  go_enter Tryz.func12, Tryz.ntmps12
  go_wp2_with fail
  clear hmk
  rw [← HWT.out, ← HGX.out]
  clear c0 c1 c1A
  go_loop [14, 15] (fun mv iv => ∃ j u : Nat, j ≤ n ∧ iv = .int .i64 j ∧ mv = .int .i64 u ∧ u = (x.take j).count false) (fun _ i => n - (intOf i).toNat)
  case atStart => exact ⟨0, 0, Nat.zero_le _, rfl, rfl, rfl⟩
  case round =>
    obtain ⟨j, u, hj, rfl, rfl, hu⟩ := hrel
    by_cases hlt : j < n
    · have hjx : j < x.length := by have := HXL.out; omega
      obtain ⟨xb, xo, hxa, hcell⟩ := HXH.out.boolAt j hjx
      injection hxa with hxa
      injection hxa with hx1 hx2
      subst hx1 hx2
      rw [Nat.zero_add] at hcell
      have HNX := Lib.hid (show (x.take (j + 1)).count false = (x.take j).count false + (if x[j] = false then 1 else 0) by
        rw [List.take_succ_eq_append_getElem hjx, List.count_append]
        cases x[j] <;> rfl)
      obtain ⟨y, hy⟩ : ∃ y, y = x[j] := ⟨_, rfl⟩
      rw [← hy] at hcell HNX
      have hj9 : j < 1000 := by have := HN9.out; omega
      have hu9 : u ≤ 1000 := by rw [hu]; exact Nat.le_trans List.count_le_length (by rw [List.length_take]; omega)
      have HU := Lib.hid hu
      clear hy hu hjx
      cases y
      · go_wp2_with fail
        go_round
        case rel => exact ⟨j + 1, u + 1, hlt, by go_num, by go_num, by rw [HNX.out, ← HU.out]; rfl⟩
        case measure => simp [intOf]; omega
      · go_wp2_with fail
        go_round
        case rel => exact ⟨j + 1, u, hlt, by go_num, rfl, by rw [HNX.out, ← HU.out]; rfl⟩
        case measure => simp [intOf]; omega
    · obtain rfl : j = n := by omega
      have hux : u = x.count false := by rw [hu, List.take_of_length_le (by have := HXL.out; omega)]
      have HDEC := Lib.hid (refDec_any (e : Int) t ((u : Nat) : Int) _ _ _ q _ HQL.out HQH.out HQ256.out HQM.out HQC.out HQX.out)
      have HUX := Lib.hid hux
      rw [← hux] at HEQ
      clear hu hux
      go_wp2_with fail
      refine HDEC.out.mono ?_
      clear HDEC
      intro e3 w3 h
      rcases takesV_copy h with ⟨hno, rfl, l3⟩ | ⟨s, S, cs, hyes, rfl, hsh, hsc, hscm, l3⟩
      · have HO := Lib.hid (HEQ.out.trans (by rw [hno]))
        have L3 := Lib.hid (HLT.out.trans l3)
        clear hno h l3
        go_wp2_with fail
        go_ret3
        exact ⟨.inl ⟨HO.out, rfl⟩, L3.out⟩
      · obtain ⟨hs64, hslen⟩ := decQ_is HQ256.out hyes
        have HO := Lib.hid (HEQ.out.trans (by rw [hyes]))
        have L3 := Lib.hid (HLT.out.trans l3)
        have HX3 := Lib.hid (HXH.out.later l3)
        have H64 := Lib.hid (mixL_64 x s hs64)
        have HSTART := Lib.hid (show TcInv x s w3.heap.size j w3 (.slice S s.length cs) (.slice none 0 0) (.int .i64 0) w3 from TcInv.mk S none s.length cs 0 0 0 [] s 0 rfl rfl (Nat.zero_le _) rfl hsc hscm (by rw [List.drop_zero]; have := HUX.out; omega) rfl rfl hsh (ownG_nil _ _ _ _) (Later.refl _))
        clear h hyes hs64 hslen hsh hsc hscm l3 HQH HXH HEQ
        go_wp2_with fail
        go_loopw [16, 18, 19] (fun sv lv iv wr => TcInv x s w3.heap.size j w3 sv lv iv wr) (fun _ _ iv _ => j - (intOf iv).toNat)
        case atStart => exact HSTART.out
        case round =>
          clear HSTART
          obtain ⟨S', L, ns, cs', cl, k, done, sr, rfl, rfl, rfl, hk, hns, hcc, hcm, hcnt, hdl, hmix, hhas, hown, lat⟩ := hrel
          have HNS := Lib.hid hns
          have HCNT := Lib.hid hcnt
          have HDL := Lib.hid hdl
          have HMIX := Lib.hid hmix
          have HHAS := Lib.hid hhas
          have HOWN := Lib.hid hown
          have HLAT := Lib.hid lat
          clear hns hcnt hdl hmix hhas hown
          by_cases hlt2 : k < j
          · have hkx : k < x.length := by have := HXL.out; omega
            obtain ⟨xb, xo, hxa, hcell⟩ := (HX3.out.later lat).boolAt k hkx
            injection hxa with hxa
            injection hxa with hx1 hx2
            subst hx1 hx2
            rw [Nat.zero_add] at hcell
            have HDR := Lib.hid (drop_at hkx)
            obtain ⟨y, hy⟩ : ∃ y, y = x[k] := ⟨_, rfl⟩
            rw [← hy] at hcell HDR
            have hk9 : k < 1000 := by have := HN9.out; omega
            have hkj : (k : Int) < (j : Int) := by omega
            obtain ⟨wa, hwa⟩ : ∃ wa, wa = wr.alloc (.cells #[.int .i64 0, .int .i64 0, .string ⟨#[]⟩] 26) := ⟨_, rfl⟩
            obtain ⟨gv, hgv⟩ : ∃ gv, gv = wr.heap.size := ⟨_, rfl⟩
            have LA : Later wr wa := hwa ▸ Later.new _ _
            have hcellA : wa.cell? ⟨gx, k, none⟩ = some (.bool y) := LA.cell hcell
            have BV : Blk wa gv #[.int .i64 0, .int .i64 0, .string ⟨#[]⟩] 26 := by rw [hwa, hgv]; exact Blk.new wr _ _ _ rfl
            have HBV := Lib.hid BV
            have HWA := Lib.hid hwa
            have HGV := Lib.hid hgv
            have HLA := Lib.hid LA
            rw [hwa] at hcellA
            clear hy hcell LA BV hwa hgv hkx
            cases y with
            | true =>
              have HBB := (Blk.new wr #[.int .i64 0, .int .i64 0, .string ⟨#[]⟩] 26 _ rfl)
              have v0 := HBB.cell 0 _ rfl
              have v1 := HBB.cell 1 _ rfl
              have v2 := HBB.cell 2 _ rfl
              have HAS := Lib.hid ((Blk.new (wr.alloc (.cells #[.int .i64 0, .int .i64 0, .string ⟨#[]⟩] 26)) (fl [zV]).toArray 26 (wr.heap.size + 1) (by simp)).has)
              have LT := Lib.hid ((HLAT.out.alloc (.cells #[.int .i64 0, .int .i64 0, .string ⟨#[]⟩] 26)).alloc (.cells (fl [zV]).toArray 26))
              clear HBB lat
              go_wp2_with (at_builtin; refine wpList_append_g _ rfl (.tmp 114) (.tmp 116) 23 rfl w3.heap.size 26 (vagg 0 0 ⟨#[]⟩) 3 32 Tryz.underlying23 info_v rfl (by decide) _ k (fl done) rfl ((HOWN.out.alloc _).alloc _) _ 1 1 (fl [zV]) rfl HAS.out (by rfl) (by intro h; cases h) (fl_one _) (by unfold maxLen; omega) (by omega) LT.out.size ?_; intro A2 c2 w7 o2 g2 b2 n2; have HO2 := Lib.hid o2; have HL7 := Lib.hid (Later.of (LT.out.below.trans b2)); clear o2 g2 b2 n2)
              go_roundw
              case rel =>
                refine TcInv.mk S' A2 ns cs' c2 (k + 1) _ (done ++ [zV]) sr _ rfl (by omega) hlt2 HNS.out hcc hcm ?_ (by rw [List.length_append, HDL.out]; rfl) ?_ HHAS.out (by rw [fl_append]; exact HO2.out) HL7.out
                · have h := HCNT.out
                  rw [HDR.out] at h
                  simpa using h
                · have h := HMIX.out
                  rw [HDR.out] at h
                  rw [← h, List.append_assoc]
                  rfl
              case measure => simp [intOf]; omega
            | false =>
              match sr, HNS, HMIX, HHAS with
              | [], HNS, HMIX, HHAS =>
                exfalso
                have h := HCNT.out
                rw [HDR.out] at h
                have := HNS.out
                simp at h this
                omega
              | v :: sr', HNS, HMIX, HHAS =>
                obtain ⟨sb, so, rfl, c0, c1, c2⟩ := HHAS.out.val3 0 (by simp)
                simp only [List.getElem_cons_zero, Nat.zero_mul, Nat.add_zero] at c0 c1 c2
                have HH2 := Lib.hid (show Has w3 (if cs' = 1 then some ⟨sb, so, none⟩ else some ⟨sb, so + 3, none⟩) (fl sr') by
                  split
                  · have h0 : sr' = [] := List.eq_nil_of_length_eq_zero (by have := HNS.out; simp at this; omega)
                    rw [h0]; exact Has.nil_
                  · exact HHAS.out.drop 3)
                obtain ⟨vt, vi, vs⟩ := v
                dsimp only at c0 c1 c2
                have LWA := HLAT.out.trans HLA.out
                have a0 := LWA.cell c0
                have a1 := LWA.cell c1
                have a2 := LWA.cell c2
                have o0 := HBV.out.cell 0 _ rfl
                have o1 := HBV.out.cell 1 _ rfl
                have o2 := HBV.out.cell 2 _ rfl
                have f0 := HBV.out.frozen 0
                have f1 := HBV.out.frozen 1
                have f2 := HBV.out.frozen 2
                have HCN2 := Lib.hid (show (x.drop (k + 1)).count false = ns - 1 by
                  have h := HCNT.out
                  rw [HDR.out, List.count_cons_self] at h
                  omega)
                have HMX2 := Lib.hid (show (done ++ [(vt, vi, vs)]) ++ mixL (x.drop (k + 1)) sr' = mixL x s by
                  have h := HMIX.out
                  rw [HDR.out] at h
                  rw [← h, List.append_assoc]
                  rfl)
                have HNS2 := Lib.hid (show ns - 1 = sr'.length by have := HNS.out; simp at this; omega)
                have hns1 : 1 ≤ ns := by have := HNS.out; simp at this; omega
                have i1' : (1 : Int) ≤ (ns : Int) := by omega
                have i0' : (0 : Int) < (ns : Int) := by omega
                have i2' : (ns : Int) ≤ (cs' : Int) := by omega
                clear c0 c1 c2 LWA lat
                go_wp2_with fail
                rw [← HWA.out, ← HGV.out]
                go_region
                obtain ⟨wb, hwb⟩ : ∃ wb, wb = (((wa.setCell ⟨gv, 0, none⟩ (.int .i64 vt)).setCell ⟨gv, 1, none⟩ (.int .i64 vi)).setCell ⟨gv, 2, none⟩ (.string vs)).drew := ⟨_, rfl⟩
                have LB : Later wr wb := by rw [hwb]; exact (three_later HLA.out (by rw [HGV.out]; exact Nat.le_refl _) _ _ _).drew
                have BB : Blk wb gv #[.int .i64 vt, .int .i64 vi, .string vs] 26 := by rw [hwb]; exact (three_blk HBV.out rfl _ _ _).drew
                rw [← hwb]
                have v0 := BB.cell 0 _ rfl
                have v1 := BB.cell 1 _ rfl
                have v2 := BB.cell 2 _ rfl
                have OB := Lib.hid (own_later HOWN.out LB)
                have HAS := Lib.hid ((Blk.new wb (fl [(vt, vi, vs)]).toArray 26 _ rfl).has)
                have LT := Lib.hid ((HLAT.out.trans LB).alloc (.cells (fl [(vt, vi, vs)]).toArray 26))
                clear hwb LB BB a0 a1 a2 o0 o1 o2 f0 f1 f2
                go_wp2_with (at_builtin; refine wpList_append_g _ rfl (.tmp 114) (.tmp 116) 23 rfl w3.heap.size 26 (vagg 0 0 ⟨#[]⟩) 3 32 Tryz.underlying23 info_v rfl (by decide) _ k (fl done) rfl (OB.out.alloc _) _ 1 1 (fl [(vt, vi, vs)]) rfl HAS.out (by rfl) (by intro h; cases h) (fl_one _) (by unfold maxLen; omega) (by omega) LT.out.size ?_; intro A2 c2 w7 o2 g2 b2 n2; have HO2 := Lib.hid o2; have HL7 := Lib.hid (Later.of (LT.out.below.trans b2)); clear o2 g2 b2 n2)
                go_roundw
                case rel => exact TcInv.mk _ A2 (ns - 1) (cs' - 1) c2 (k + 1) _ (done ++ [(vt, vi, vs)]) sr' _ rfl (by omega) hlt2 HNS2.out (by omega) (by omega) HCN2.out (by rw [List.length_append, HDL.out]; rfl) HMX2.out HH2.out (by rw [fl_append]; exact HO2.out) HL7.out
                case measure => simp [intOf]; omega
          · obtain rfl : k = j := by omega
            have hmx : done = mixL x s := by
              have h := HMIX.out
              rw [List.drop_eq_nil_of_le (by have := HXL.out; omega), show mixL [] sr = [] from rfl, List.append_nil] at h
              exact h
            have hown := HOWN.out
            rw [hmx] at hown
            have HPC := Lib.hid (refPutColumn_any (e : Int) t L k cl (mixL x s) wr (by rw [mixL_len]; exact HXL.out.symm) (by rw [mixL_len, HXL.out]; exact HN9.out) (Has.ownG hown) H64.out)
            have HLH := Lib.hid (Has.ownG hown)
            have LY := Lib.hid (L3.out.trans lat)
            have HML := Lib.hid (show k = (mixL x s).length by rw [mixL_len]; exact HXL.out.symm)
            clear hmx hown lat
            go_wp2_with fail
            refine HPC.out.mono ?_
            clear HPC
            intro e4 w4 h
            rcases h with ⟨⟨hp, rfl⟩ | ⟨pb, C, cc, hp, rfl, ph, _, _, _⟩, l4⟩
            · have HO2 := Lib.hid (HO.out.trans (if_neg (by rw [hp]; simp)))
              have L4 := Lib.hid (LY.out.trans l4)
              clear hp l4
              go_wp2_with fail
              go_ret3
              exact ⟨.inl ⟨HO2.out, rfl⟩, L4.out⟩
            · have L4 := Lib.hid (LY.out.trans l4)
              have cv1 := conv_str C pb.length cc pb rfl w4 _ ph.rd
              have cv2 := conv_str (some ⟨bb, off, none⟩) m c (bl) HMB.out w4 _ ((HR.out.later L4.out).rd)
              have HPL := Lib.hid (putC_lt (by rw [mixL_len, HXL.out]; exact HN9.out) H64.out hp)
              by_cases heq : pb = bl
              · have HO2 := Lib.hid (HO.out.trans (if_pos (by rw [hp, heq])))
                have HLH4 := Lib.hid (HLH.out.later l4)
                subst heq
                clear hp l4 ph
                go_wp2_with fail
                go_ret3
                refine ⟨.inr ⟨mixL x s, e, L, cl, HO2.out, ?_, HLH4.out⟩, L4.out⟩
                rw [← HML.out]
                rfl
              · have HO2 := Lib.hid (HO.out.trans (if_neg (by rw [hp]; intro h; injection h with h; exact heq h)))
                have hbn := bstr_ne HPL.out H256.out heq
                clear hp l4 ph heq
                go_wp2_with fail
                go_ret3
                exact ⟨.inl ⟨HO2.out, rfl⟩, L4.out⟩

end Go.Proofs.YtldalkhmbpkjpaaGreatDoor
