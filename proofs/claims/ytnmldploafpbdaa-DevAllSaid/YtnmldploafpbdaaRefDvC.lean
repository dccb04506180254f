/- The document's device: Crash. -/
import Derived.Test.YtnmldploafpbdaaRefDvW
import Derived.Test.YtnmldploafpbdaaDevH
namespace Go.Proofs.Ytnmldploafpbdaa
open Go.RowKit
set_option linter.unusedVariables false

theorem bstr_of {s : ByteArray} {l : List Nat} (h : s.data.toList = l.map UInt8.ofNat) : s = bstr l := by
  have h2 := bstr_toList l
  obtain ⟨a⟩ := s
  obtain ⟨b, hb⟩ : ∃ b, bstr l = b := ⟨_, rfl⟩
  rw [hb] at h2 ⊢
  obtain ⟨b⟩ := b
  congr 1
  exact Array.ext' (h.trans h2.symm)
theorem bstr_app (a b : List Nat) : bstr a ++ bstr b = bstr (a ++ b) := by
  apply bstr_of
  rw [ByteArray.data_append, Array.toList_append, bstr_toList, bstr_toList, List.map_append]
theorem bstr_ext (l : List Nat) (i j : Nat) : (bstr l).extract i j = bstr ((l.take j).drop i) := by
  apply bstr_of
  rw [ByteArray.data_extract, Array.toList_extract, bstr_toList, List.extract_eq_take_drop, List.map_drop, List.map_take]
  rw [List.drop_take]
theorem slice_to (X : Int) (k : Nat) (hX : X = k) (l : List Nat) (hk : k ≤ l.length) (W : World) : (Instr.slice 9 (.string (bstr l)) none (some (.int .i64 X)) none).run Try.prog W = .ok (.string (bstr (l.take k))) W := by
  subst hX
  have h1 : k ≤ (bstr l).size := by rw [bstr_size]; omega
  simp [Instr.slice, Instr.sliceBounds, Instr.sliceBound, asIntOf, run_underlying Try.underlying9, h1]
  rw [bstr_ext]; rfl
theorem slice_from (X : Int) (k : Nat) (hX : X = k) (l : List Nat) (hk : k ≤ l.length) (W : World) : (Instr.slice 9 (.string (bstr l)) (some (.int .i64 X)) none none).run Try.prog W = .ok (.string (bstr (l.drop k))) W := by
  subst hX
  have h1 : k ≤ (bstr l).size := by rw [bstr_size]; omega
  simp [Instr.slice, Instr.sliceBounds, Instr.sliceBound, asIntOf, run_underlying Try.underlying9, h1]
  rw [bstr_ext, bstr_size, List.take_of_length_le (Nat.le_refl _)]
def CrR (base p gs gn B cs cn : Nat) (A : Option Addr) (nf cf : Nat) (keep : List Nat) (torn at_ : Int) (d : D) (x : Array Value) (w : World) (iv : Value) (wr : World) : Prop :=
  ∃ j : Nat, iv = .int .i64 j ∧ j ≤ nf ∧ RR wr base p gs gn B cs cn A nf cf (crashJ keep torn at_ d.fly d.sure j) d.now d.fly x ∧ KR w wr ∧ Below base w wr
theorem CrR.mk {base p gs gn B cs cn nf cf : Nat} {A : Option Addr} {keep : List Nat} {torn at_ : Int} {d : D} {x : Array Value} {w wr : World} (a : Int) (j : Nat) (ha : a = (j : Int)) (hj : j ≤ nf) (h1 : RR wr base p gs gn B cs cn A nf cf (crashJ keep torn at_ d.fly d.sure j) d.now d.fly x) (h2 : KR w wr) (h3 : Below base w wr) : CrR base p gs gn B cs cn A nf cf keep torn at_ d x w (.int .i64 a) wr := by
  subst ha; exact ⟨j, rfl, hj, h1, h2, h3⟩
theorem RR.wait {w : World} {base p gs gn B cs cn nf cf : Nat} {A : Option Addr} {sure now : List (List Nat)} {fly : List (Nat × List Nat)} {x : Array Value} (h : RR w base p gs gn B cs cn A nf cf sure now fly x) (j : Nat) (hj : j < nf) (hjl : j < fly.length) : ∃ ga, A = some ⟨ga, 0, none⟩ ∧ w.cell? ⟨ga, j * 2, none⟩ = some (.int .i64 (fly[j].1 : Int)) ∧ w.cell? ⟨ga, j * 2 + 1, none⟩ = some (.string (bstr fly[j].2)) ∧ nf ≤ cf := by
  have h2 := h.2.2.2.1.1
  obtain ⟨ga, rfl⟩ := own_some h2 (by omega)
  have hg := pendV_get fly j hjl
  exact ⟨ga, rfl, by rw [h2.cellAt _ (by omega), hg.1], by rw [h2.cellAt _ (by omega), hg.2], ownG_cap h2⟩
/-- What a byte of keep says of write j. -/
theorem kept_bit (keep : List Nat) (j n x : Nat) (hn : n = keep.length) (h256 : x < 256) (hq : j / 8 < n) (hx : x = keep[j / 8]'(by omega)) : (bits .and .u8 ((x : Int) / 2 ^ (j % 8)) 1 == 1) = keptB keep j := by
  have hgd : keep.getD (j / 8) 0 = x := by rw [List.getD, List.getElem?_eq_getElem (by omega), hx]; rfl
  unfold keptB
  rw [hgd, ← hn, decide_eq_true hq, Bool.true_and]
  obtain ⟨r, hr⟩ : ∃ r, j % 8 = r := ⟨_, rfl⟩
  rw [hr]
  have hy : (x : Int) / 2 ^ r = ((x / 2 ^ r : Nat) : Int) := by simp
  have hyl : x / 2 ^ r < 256 := Nat.lt_of_le_of_lt (Nat.div_le_self _ _) h256
  have hb : bits .and .u8 ((x : Int) / 2 ^ r) 1 = ((x / 2 ^ r % 2 : Nat) : Int) := by
    rw [hy]
    have := bits_mask .u8 8 (by decide) wraps_u8 1 (by decide) ((x / 2 ^ r : Nat) : Int) (Int.natCast_nonneg _) (by omega)
    simpa using this
  rw [hb, Bool.eq_iff_iff]
  simp
  omega

theorem set_all {P : List Nat → Prop} {s : List (List Nat)} {i : Nat} {a : List Nat} (hs : ∀ x ∈ s, P x) (ha : i < s.length → P a) : ∀ x ∈ s.set i a, P x := by
  intro x hx
  by_cases hi : i < s.length
  · rcases List.mem_or_eq_of_mem_set hx with h | rfl
    · exact hs x h
    · exact ha hi
  · rw [List.set_eq_of_length_le (by omega)] at hx
    exact hs x hx
theorem crashJ_all {P : List Nat → Prop} (hP : ∀ a b k, P a → P b → P (a.take (mixK k) ++ b.drop (mixK k))) (keep : List Nat) (torn at_ : Int) (F : List (Nat × List Nat)) (s : List (List Nat)) (hF : ∀ x ∈ F, P x.2) (hs : ∀ x ∈ s, P x) : ∀ j, j ≤ F.length → ∀ x ∈ crashJ keep torn at_ F s j, P x := by
  intro j
  induction j with
  | zero => intro _; exact hs
  | succ j ih =>
    intro hj
    have hi := ih (by omega)
    have hF2 : P (F.getD j (0, [])).2 := by
      rw [List.getD, List.getElem?_eq_getElem (by omega)]
      exact hF _ (List.getElem_mem _)
    show ∀ x ∈ stepC keep torn at_ j (F.getD j (0, [])) (crashJ keep torn at_ F s j), P x
    unfold stepC
    split
    · refine set_all hi fun h => hP _ _ _ hF2 ?_
      rw [List.getD, List.getElem?_eq_getElem h]
      exact hi _ (List.getElem_mem _)
    · split
      · exact set_all hi fun _ => hF2
      · exact hi
theorem crashJ_128 (keep : List Nat) (torn at_ : Int) (F : List (Nat × List Nat)) (s : List (List Nat)) (hF : ∀ x ∈ F, x.2.length = 128) (hs : ∀ x ∈ s, x.length = 128) : ∀ j, j ≤ F.length → ∀ x ∈ crashJ keep torn at_ F s j, x.length = 128 :=
  crashJ_all (P := fun l => l.length = 128) (fun a b k ha hb => mix_len ha hb (mixK_le k)) keep torn at_ F s hF hs
theorem crashJ_256 (keep : List Nat) (torn at_ : Int) (F : List (Nat × List Nat)) (s : List (List Nat)) (hF : ∀ x ∈ F, ∀ y ∈ x.2, y < 256) (hs : ∀ x ∈ s, ∀ y ∈ x, y < 256) : ∀ j, j ≤ F.length → ∀ x ∈ crashJ keep torn at_ F s j, ∀ y ∈ x, y < 256 :=
  crashJ_all (P := fun l => ∀ y ∈ l, y < 256) (fun a b k ha hb y hy => by
    rcases List.mem_append.1 hy with hy | hy
    · exact ha y (List.mem_of_mem_take hy)
    · exact hb y (List.mem_of_mem_drop hy)) keep torn at_ F s hF hs

set_option maxRecDepth 100000 in
set_option maxHeartbeats 8000000 in
theorem refCrash_low (base p gs gn B cs cn : Nat) (A : Option Addr) (cf : Nat) (d : D) (KA : Option Addr) (n c : Nat) (keep : List Nat) (torn at_ : Int) (w : World) (h : RA w base p gs gn B cs cn A cf d) (hB : 1 ≤ B ∧ B ≤ 4000) (hf : d.fly.length ≤ 100000) (hfl : ∀ x ∈ d.fly, x.1 < B ∧ x.2.length = 128) (hsl : ∀ x ∈ d.sure, x.length = 128) (hbase : base ≤ w.heap.size)
    (hn : n = keep.length) (hn2 : n ≤ 1000) (hr : ∀ W, KR w W → Below base w W → Has W KA (ints .u8 keep)) (h256 : ∀ x ∈ keep, x < 256) (ha : at_ < 0) :
    Calls Try.prog 16 #[dptr p, .slice KA n c, .int .i64 torn, .int .i64 at_] w fun e w' => e = .returned (.tuple #[]) ∧ DoneR base p B (d.cr keep torn at_) w w' := by
  obtain ⟨nf, hnf⟩ : ∃ nf, nf = d.fly.length := ⟨_, rfl⟩
  have HNF := Lib.hid hnf
  have HR := Lib.hid (show RR w base p gs gn B cs cn A nf cf d.sure d.now d.fly #[.slice (some ⟨gs, 0, none⟩) B cs, .slice (some ⟨gn, 0, none⟩) B cn, .slice A nf cf, .int .i64 d.writes, .int .i64 (leftR d)] by rw [hnf]; exact h)
  have HFL := Lib.hid hfl
  have HSL := Lib.hid hsl
  have HBASE := Lib.hid hbase
  have HKB := Lib.hid hr
  have HN := Lib.hid hn
  have HK256 := Lib.hid h256
  have hcs := own_cap h.2.1
  have hnf9 : nf ≤ 100000 := by omega
  have hB1 := hB.1
  have hB4 := hB.2
  have HLEN := Lib.hid (crashJ_128 keep torn at_ d.fly d.sure (fun x hx => (hfl x hx).2) hsl)
  clear h hB hf hfl hsl hbase hr hn h256 hnf
  have hd : max at_ 0 = 0 := by omega
  have HMK := Lib.hid (show mixK at_ = 0 by unfold mixK; omega)
  have s1 := fun l hl W => slice_to 0 0 rfl l hl W
  have s2 := fun l hl W => slice_from 0 0 rfl l hl W
  have k2 : w.cell? ⟨p, 2, none⟩ = some (.slice A nf cf) := HR.out.1.cell 2 _ rfl
  go_enter Try.func16, Try.ntmps16
  go_wp2_with fail
  clear k2
  go_loopw [8] (fun iv wr => CrR base p gs gn B cs cn A nf cf keep torn at_ d #[.slice (some ⟨gs, 0, none⟩) B cs, .slice (some ⟨gn, 0, none⟩) B cn, .slice A nf cf, .int .i64 d.writes, .int .i64 (leftR d)] w iv wr) (fun iv _ => nf - (intOf iv).toNat)
  case atStart => exact CrR.mk 0 0 rfl (Nat.zero_le _) HR.out (KR.refl _) (Below.refl _ _)
  case round =>
    obtain ⟨j, rfl, hj, hdr, hkd, hbl⟩ := hrel
    have HB := Lib.hid hbl
    have HK := Lib.hid hkd
    have HD := Lib.hid hdr
    have k2 : wr.cell? ⟨p, 2, none⟩ = some (.slice A nf cf) := hdr.1.cell 2 _ rfl
    by_cases hlt : j < nf
    · have hjl : j < d.fly.length := by rw [← HNF.out]; exact hlt
      obtain ⟨ga, rfl, c0, c1, hncf⟩ := hdr.wait j hlt hjl
      have hgd : d.fly.getD j (0, []) = d.fly[j] := by rw [List.getD, List.getElem?_eq_getElem hjl]; rfl
      obtain ⟨⟨ad, l⟩, hx⟩ : ∃ x, x = d.fly[j] := ⟨_, rfl⟩
      rw [← hx] at c0 c1 hgd
      have c0 : wr.cell? ⟨ga, j * 2, none⟩ = some (.int .i64 (ad : Int)) := c0
      have c1 : wr.cell? ⟨ga, j * 2 + 1, none⟩ = some (.string (bstr l)) := c1
      have hxm := HFL.out (ad, l) (by rw [hx]; exact List.getElem_mem _)
      have hat : ad < B := hxm.1
      have hl128 : l.length = 128 := hxm.2
      have HGD := Lib.hid hgd
      have L3 := Later.new wr (.cells #[.int .i64 ad, .string (bstr l)] 63)
      have D3 := hdr.later L3
      have HD3 := Lib.hid D3
      have HL3 := Lib.hid L3
      have B3 := Blk.new wr #[.int .i64 ad, .string (bstr l)] 63 wr.heap.size rfl
      have u0 := (Blk.new wr #[.int .i64 0, .string ⟨#[]⟩] 63 wr.heap.size rfl).frozen 0
      have u1 := (Blk.new wr #[.int .i64 0, .string ⟨#[]⟩] 63 wr.heap.size rfl).frozen 1
      obtain ⟨w3, hw3⟩ : ∃ x, wr.alloc (.cells #[.int .i64 ad, .string (bstr l)] 63) = x := ⟨_, rfl⟩
      rw [hw3] at D3 HD3 HL3 B3
      have HKD3 := Lib.hid (HK.out.trans (KR.later HL3.out))
      have HBS3 := Lib.hid (Nat.le_trans HBASE.out HKD3.out.2.2.2.1)
      have HBB3 := Lib.hid (HB.out.trans (Below.mono HL3.out.below (Nat.le_trans HBASE.out HK.out.2.2.2.1)))
      obtain ⟨t3, ht3⟩ : ∃ x, wr.heap.size = x := ⟨_, rfl⟩
      rw [ht3] at B3 u0 u1
      have e0 := B3.cell 0 _ rfl
      have e1 := B3.cell 1 _ rfl
      have k0 : w3.cell? ⟨p, 0, none⟩ = some (.slice (some ⟨gs, 0, none⟩) B cs) := D3.1.cell 0 _ rfl
      obtain ⟨S, hS⟩ : ∃ S, S = crashJ keep torn at_ d.fly d.sure j := ⟨_, rfl⟩
      have hadS : ad < S.length := by rw [hS, D3.slen.1]; exact hat
      obtain ⟨o, ho⟩ : ∃ o, o = S[ad] := ⟨_, rfl⟩
      have ho128 : o.length = 128 := HLEN.out j (by omega) o (by rw [ho, ← hS]; exact List.getElem_mem _)
      have hc0 : w3.cell? ⟨gs, ad, none⟩ = some (.string (bstr o)) := by rw [D3.2.1.cellAt ad (by omega), ← hS, strsV_get S ad hadS, ho]
      have hfr := D3.2.1.frozenAt ad
      have HS := Lib.hid hS
      have HO := Lib.hid (show S.getD ad [] = o by rw [List.getD, List.getElem?_eq_getElem hadS, ho]; rfl)
      clear hdr hkd hbl hjl hgd hx L3 D3 hS ho hadS hxm B3
      by_cases htn : (j : Int) = torn
      · have hte : ((j : Int) == torn) = true := by simpa using htn
        obtain ⟨lk, hlk⟩ : ∃ lk, lk = l.take 0 := ⟨_, rfl⟩
        obtain ⟨ok, hok⟩ : ∃ ok, ok = o.drop 0 := ⟨_, rfl⟩
        have hst : crashJ keep torn at_ d.fly d.sure (j + 1) = S.set ad (lk ++ ok) := by
          show stepC keep torn at_ j _ (crashJ keep torn at_ d.fly d.sure j) = _
          rw [← HS.out]
          unfold stepC
          rw [if_pos htn, HGD.out]
          show S.set ad (mixL l (S.getD ad []) at_) = _
          rw [HO.out]; unfold mixL; rw [HMK.out, ← hlk, ← hok]
        have HST := Lib.hid hst
        have t1 := s1 l (by omega)
        rw [← hlk] at t1
        have t2 := s2 o (by omega)
        rw [← hok] at t2
        have t3' : (9223372036854775807 < (bstr lk).size + (bstr ok).size) = False := by rw [bstr_size, bstr_size, hlk, hok, List.length_take, List.length_drop]; simp; omega
        have t4' : decide (9223372036854775807 < (bstr lk).size + (bstr ok).size) = false := by rw [bstr_size, bstr_size, hlk, hok, List.length_take, List.length_drop]; simp; omega
        clear hst htn s1 s2 hlk hok
        go_wp2_with fail
        go_region
        rw [bstr_app]
        have K5 := KR.cell_ HD3.out.2.1 HBS3.out ad (.string (bstr (lk ++ ok)))
        have D5 := HD3.out.puts ad (lk ++ ok)
        have HD5 := Lib.hid (D5.later (Later.refl _).drew)
        have HK5 := Lib.hid ((HKD3.out.trans K5.1).trans (KR.later (Later.refl _).drew))
        have HB5 := Lib.hid ((HBB3.out.trans K5.2).drew)
        clear K5 D5 c0 c1 e0 e1 k0 hc0 hfr u0 u1 t1 t2 t3' t4'
        go_wp2_with fail
        go_roundw
        case rel => exact CrR.mk _ (j + 1) (by go_num) hlt (by rw [HST.out, HS.out]; exact HD5.out) HK5.out HB5.out
        case measure => simp [intOf]; omega
      · have hte : ((j : Int) == torn) = false := by simpa using htn
        have hkh := HKB.out w3 HKD3.out HBB3.out
        have hno : keptB keep j = false → crashJ keep torn at_ d.fly d.sure (j + 1) = S := fun hkb => by
          show stepC keep torn at_ j _ (crashJ keep torn at_ d.fly d.sure j) = _
          rw [← HS.out]
          unfold stepC
          rw [if_neg htn, hkb]; rfl
        have hyes : keptB keep j = true → crashJ keep torn at_ d.fly d.sure (j + 1) = S.set ad l := fun hkb => by
          show stepC keep torn at_ j _ (crashJ keep torn at_ d.fly d.sure j) = _
          rw [← HS.out]
          unfold stepC
          rw [if_neg htn, if_pos hkb, HGD.out]
        have HNO := Lib.hid hno
        have HYES := Lib.hid hyes
        clear hno hyes htn s1 s2
        by_cases hqn : j / 8 < n
        · have hql : j / 8 < keep.length := by rw [← HN.out]; exact hqn
          obtain ⟨x, hx⟩ : ∃ x, x = keep[j / 8] := ⟨_, rfl⟩
          have hx256 : x < 256 := by rw [hx]; exact HK256.out _ (List.getElem_mem hql)
          have hbit := kept_bit keep j n x HN.out hx256 hqn hx
          obtain ⟨ab, off, hKA, hcell⟩ : ∃ ab off, KA = some ⟨ab, off, none⟩ ∧ w3.cell? ⟨ab, off + j / 8, none⟩ = some (.int .u8 (x : Int)) := by
            rcases hkh with h | ⟨b', o', h1, _, h3⟩
            · have := congrArg List.length h
              rw [ints_length] at this
              rw [show keep.length = 0 from this] at hql
              omega
            · exact ⟨b', o', h1, by rw [hx]; exact h3 (j / 8) _ (ints_get _ _ _ hql)⟩
          subst hKA
          obtain ⟨q, hq⟩ : ∃ q, j / 8 = q := ⟨_, rfl⟩
          obtain ⟨r, hr8⟩ : ∃ r, j % 8 = r := ⟨_, rfl⟩
          have e1' : Int.tdiv (j : Int) 8 = (q : Int) := by rw [← hq]; exact (Int.ofNat_tdiv j 8).symm
          have e2' : (j : Int) / 8 = (q : Int) := by omega
          have e3' : Int.tmod (j : Int) 8 = (r : Int) := by rw [← hr8]; exact (Int.ofNat_tmod j 8).symm
          have e4' : (j : Int) % 8 = (r : Int) := by omega
          have hr7 : r ≤ 7 := by omega
          rw [hq] at hqn hcell
          rw [hr8] at hbit
          have d1 : decide (q < n) = true := by simpa using hqn
          obtain ⟨kb, hkb⟩ : ∃ kb, keptB keep j = kb := ⟨_, rfl⟩
          rw [hkb] at hbit
          have HKBJ := Lib.hid hkb
          clear hkh hql hx hq hr8 hkb
          cases kb
          · go_wp2_with fail
            go_roundw
            case rel => exact CrR.mk _ (j + 1) (by go_num) hlt (by rw [HNO.out HKBJ.out, HS.out]; exact HD3.out) HKD3.out HBB3.out
            case measure => simp [intOf]; omega
          · go_wp2_with fail
            go_region
            have K5 := KR.cell_ HD3.out.2.1 HBS3.out ad (.string (bstr l))
            have D5 := HD3.out.puts ad l
            have HD5 := Lib.hid (D5.later (Later.refl _).drew)
            have HK5 := Lib.hid ((HKD3.out.trans K5.1).trans (KR.later (Later.refl _).drew))
            have HB5 := Lib.hid ((HBB3.out.trans K5.2).drew)
            clear K5 D5 c0 c1 e0 e1 k0 hc0 hfr u0 u1
            go_wp2_with fail
            go_roundw
            case rel => exact CrR.mk _ (j + 1) (by go_num) hlt (by rw [HYES.out HKBJ.out, HS.out]; exact HD5.out) HK5.out HB5.out
            case measure => simp [intOf]; omega
        · have hkb : keptB keep j = false := by
            unfold keptB
            rw [← HN.out, decide_eq_false hqn, Bool.false_and]
          have HKBJ := Lib.hid hkb
          obtain ⟨q, hq⟩ : ∃ q, j / 8 = q := ⟨_, rfl⟩
          have e1' : Int.tdiv (j : Int) 8 = (q : Int) := by rw [← hq]; exact (Int.ofNat_tdiv j 8).symm
          have e2' : (j : Int) / 8 = (q : Int) := by omega
          rw [hq] at hqn
          have d1 : decide (q < n) = false := by simpa using hqn
          clear hkh hkb hq
          go_wp2_with fail
          go_roundw
          case rel => exact CrR.mk _ (j + 1) (by go_num) hlt (by rw [HNO.out HKBJ.out, HS.out]; exact HD3.out) HKD3.out HBB3.out
          case measure => simp [intOf]; omega
    · obtain rfl : j = nf := by omega
      obtain ⟨S, hS⟩ : ∃ S, S = crashJ keep torn at_ d.fly d.sure j := ⟨_, rfl⟩
      rw [← hS] at hdr HD
      have HS := Lib.hid hS
      have L1 := Later.new wr (.cells ([] : List Value).toArray 9)
      have OW := Lib.hid ((Blk.new wr ([] : List Value).toArray 9 _ rfl).ownG (base := wr.heap.size) (size := 1) (n := 0) (Nat.le_refl _) rfl (by decide))
      have HH := Lib.hid ((Has.own hdr.2.1).later L1)
      have HL1 := Lib.hid L1
      have k1 : (wr.alloc (.cells ([] : List Value).toArray 9)).cell? ⟨p, 0, none⟩ = some (.slice (some ⟨gs, 0, none⟩) B cs) := (hdr.1.later L1).cell 0 _ rfl
      have HLS := Lib.hid hdr.slen.1
      clear hdr hkd hbl hS L1 s1 s2
      go_wp2_with (at_builtin; refine wpList_append_rd _ rfl (.tmp 83) (.tmp 87) 43 rfl wr.heap.size 9 (.string ⟨#[]⟩) 16 Try.underlying43 info_st rfl _ 0 [] rfl OW.out _ (some ⟨gs, 0, none⟩) B cs (strsV S) rfl HH.out.rd (by rw [strsV_len]; exact HLS.out.symm) (by intro h; cases h) (strsV_one _) (by unfold maxLen; omega) (by omega) ?_ ?_; (exact HL1.out.size); intro A2 c2 w6 o2 g2 b2 n2; simp only [Nat.zero_add, List.nil_append] at o2; have HO2 := Lib.hid o2; have HB6 := Lib.hid (Later.of (HL1.out.below.trans b2)); have HP6 := Lib.hid (HD.out.later HB6.out); have f6 := HP6.out.1.frozen 1; have k6 := HP6.out.1.cell 1 _ rfl; have P7 := HP6.out.1.set_ 1 (.slice A2 B c2); have f7 := P7.frozen 2; have k7 := P7.cell 2 _ rfl; have P8 := P7.set_ 2 (.slice none 0 0); have f8 := P8.frozen 4; have k8 := P8.cell 4 _ rfl; clear o2 g2 b2 n2 P7 P8)
      obtain ⟨gn2, rfl⟩ := own_some HO2.out hB1
      have hg2 := HO2.out.lt gn2 rfl
      have hgs := HD.out.gb.2.2.1
      have hbw := Nat.le_trans HBASE.out HK.out.2.2.2.1
      have hb6 := Nat.le_trans hbw HB6.out.size
      have R6 : RR w6 base p gs gn2 B cs c2 A j cf S S d.fly #[.slice (some ⟨gs, 0, none⟩) B cs, .slice (some ⟨gn, 0, none⟩) B cn, .slice A j cf, .int .i64 d.writes, .int .i64 (leftR d)] := ⟨HP6.out.1, HP6.out.2.1, own_mono HO2.out hbw, HP6.out.2.2.2.1, by omega, HP6.out.2.2.2.2.2⟩
      have K7 := KR.setp R6 hb6 1 (.slice (some ⟨gn2, 0, none⟩) B c2)
      have R7 := R6.setp 1 (.slice (some ⟨gn2, 0, none⟩) B c2)
      have hb7 := Nat.le_trans hb6 K7.1.2.2.2.1
      have K8 := KR.setp R7 hb7 2 (.slice none 0 0)
      have R8 := (R7.setp 2 (.slice none 0 0)).nil_
      have hb8 := Nat.le_trans hb7 K8.1.2.2.2.1
      have K9 := KR.setp R8 hb8 4 (.int .i64 (-1))
      have R9 := R8.setp 4 (.int .i64 (-1))
      go_end0
      exact ⟨rfl, ⟨_, _, _, _, _, _, RA.of (d := d.cr keep torn at_) (nf := 0) (by unfold D.cr; rw [← HNF.out, ← HS.out]; exact R9) rfl rfl⟩, (((HK.out.trans (KR.later HB6.out)).trans K7.1).trans K8.1).trans K9.1, (((HB.out.trans (Below.mono HB6.out.below hbw)).trans K7.2).trans K8.2).trans K9.2⟩
set_option maxRecDepth 100000 in
set_option maxHeartbeats 8000000 in
theorem refCrash_mid (base p gs gn B cs cn : Nat) (A : Option Addr) (cf : Nat) (d : D) (KA : Option Addr) (n c : Nat) (keep : List Nat) (torn : Int) (k : Nat) (w : World) (h : RA w base p gs gn B cs cn A cf d) (hB : 1 ≤ B ∧ B ≤ 4000) (hf : d.fly.length ≤ 100000) (hfl : ∀ x ∈ d.fly, x.1 < B ∧ x.2.length = 128) (hsl : ∀ x ∈ d.sure, x.length = 128) (hbase : base ≤ w.heap.size)
    (hn : n = keep.length) (hn2 : n ≤ 1000) (hr : ∀ W, KR w W → Below base w W → Has W KA (ints .u8 keep)) (h256 : ∀ x ∈ keep, x < 256) (hk8 : k ≤ 128) :
    Calls Try.prog 16 #[dptr p, .slice KA n c, .int .i64 torn, .int .i64 (k : Int)] w fun e w' => e = .returned (.tuple #[]) ∧ DoneR base p B (d.cr keep torn (k : Int)) w w' := by
  obtain ⟨nf, hnf⟩ : ∃ nf, nf = d.fly.length := ⟨_, rfl⟩
  have HNF := Lib.hid hnf
  have HR := Lib.hid (show RR w base p gs gn B cs cn A nf cf d.sure d.now d.fly #[.slice (some ⟨gs, 0, none⟩) B cs, .slice (some ⟨gn, 0, none⟩) B cn, .slice A nf cf, .int .i64 d.writes, .int .i64 (leftR d)] by rw [hnf]; exact h)
  have HFL := Lib.hid hfl
  have HSL := Lib.hid hsl
  have HBASE := Lib.hid hbase
  have HKB := Lib.hid hr
  have HN := Lib.hid hn
  have HK256 := Lib.hid h256
  have hcs := own_cap h.2.1
  have hnf9 : nf ≤ 100000 := by omega
  have hB1 := hB.1
  have hB4 := hB.2
  have HLEN := Lib.hid (crashJ_128 keep torn (k : Int) d.fly d.sure (fun x hx => (hfl x hx).2) hsl)
  clear h hB hf hfl hsl hbase hr hn h256 hnf
  have hd : max (k : Int) 0 = (k : Int) := by omega
  have hd2 : min (k : Int) 128 = (k : Int) := by omega
  have HMK := Lib.hid (show mixK (k : Int) = k by unfold mixK; omega)
  have s1 := fun l hl W => slice_to (k : Int) k rfl l hl W
  have s2 := fun l hl W => slice_from (k : Int) k rfl l hl W
  have k2 : w.cell? ⟨p, 2, none⟩ = some (.slice A nf cf) := HR.out.1.cell 2 _ rfl
  go_enter Try.func16, Try.ntmps16
  go_wp2_with fail
  clear k2
  go_loopw [8] (fun iv wr => CrR base p gs gn B cs cn A nf cf keep torn (k : Int) d #[.slice (some ⟨gs, 0, none⟩) B cs, .slice (some ⟨gn, 0, none⟩) B cn, .slice A nf cf, .int .i64 d.writes, .int .i64 (leftR d)] w iv wr) (fun iv _ => nf - (intOf iv).toNat)
  case atStart => exact CrR.mk 0 0 rfl (Nat.zero_le _) HR.out (KR.refl _) (Below.refl _ _)
  case round =>
    obtain ⟨j, rfl, hj, hdr, hkd, hbl⟩ := hrel
    have HB := Lib.hid hbl
    have HK := Lib.hid hkd
    have HD := Lib.hid hdr
    have k2 : wr.cell? ⟨p, 2, none⟩ = some (.slice A nf cf) := hdr.1.cell 2 _ rfl
    by_cases hlt : j < nf
    · have hjl : j < d.fly.length := by rw [← HNF.out]; exact hlt
      obtain ⟨ga, rfl, c0, c1, hncf⟩ := hdr.wait j hlt hjl
      have hgd : d.fly.getD j (0, []) = d.fly[j] := by rw [List.getD, List.getElem?_eq_getElem hjl]; rfl
      obtain ⟨⟨ad, l⟩, hx⟩ : ∃ x, x = d.fly[j] := ⟨_, rfl⟩
      rw [← hx] at c0 c1 hgd
      have c0 : wr.cell? ⟨ga, j * 2, none⟩ = some (.int .i64 (ad : Int)) := c0
      have c1 : wr.cell? ⟨ga, j * 2 + 1, none⟩ = some (.string (bstr l)) := c1
      have hxm := HFL.out (ad, l) (by rw [hx]; exact List.getElem_mem _)
      have hat : ad < B := hxm.1
      have hl128 : l.length = 128 := hxm.2
      have HGD := Lib.hid hgd
      have L3 := Later.new wr (.cells #[.int .i64 ad, .string (bstr l)] 63)
      have D3 := hdr.later L3
      have HD3 := Lib.hid D3
      have HL3 := Lib.hid L3
      have B3 := Blk.new wr #[.int .i64 ad, .string (bstr l)] 63 wr.heap.size rfl
      have u0 := (Blk.new wr #[.int .i64 0, .string ⟨#[]⟩] 63 wr.heap.size rfl).frozen 0
      have u1 := (Blk.new wr #[.int .i64 0, .string ⟨#[]⟩] 63 wr.heap.size rfl).frozen 1
      obtain ⟨w3, hw3⟩ : ∃ x, wr.alloc (.cells #[.int .i64 ad, .string (bstr l)] 63) = x := ⟨_, rfl⟩
      rw [hw3] at D3 HD3 HL3 B3
      have HKD3 := Lib.hid (HK.out.trans (KR.later HL3.out))
      have HBS3 := Lib.hid (Nat.le_trans HBASE.out HKD3.out.2.2.2.1)
      have HBB3 := Lib.hid (HB.out.trans (Below.mono HL3.out.below (Nat.le_trans HBASE.out HK.out.2.2.2.1)))
      obtain ⟨t3, ht3⟩ : ∃ x, wr.heap.size = x := ⟨_, rfl⟩
      rw [ht3] at B3 u0 u1
      have e0 := B3.cell 0 _ rfl
      have e1 := B3.cell 1 _ rfl
      have k0 : w3.cell? ⟨p, 0, none⟩ = some (.slice (some ⟨gs, 0, none⟩) B cs) := D3.1.cell 0 _ rfl
      obtain ⟨S, hS⟩ : ∃ S, S = crashJ keep torn (k : Int) d.fly d.sure j := ⟨_, rfl⟩
      have hadS : ad < S.length := by rw [hS, D3.slen.1]; exact hat
      obtain ⟨o, ho⟩ : ∃ o, o = S[ad] := ⟨_, rfl⟩
      have ho128 : o.length = 128 := HLEN.out j (by omega) o (by rw [ho, ← hS]; exact List.getElem_mem _)
      have hc0 : w3.cell? ⟨gs, ad, none⟩ = some (.string (bstr o)) := by rw [D3.2.1.cellAt ad (by omega), ← hS, strsV_get S ad hadS, ho]
      have hfr := D3.2.1.frozenAt ad
      have HS := Lib.hid hS
      have HO := Lib.hid (show S.getD ad [] = o by rw [List.getD, List.getElem?_eq_getElem hadS, ho]; rfl)
      clear hdr hkd hbl hjl hgd hx L3 D3 hS ho hadS hxm B3
      by_cases htn : (j : Int) = torn
      · have hte : ((j : Int) == torn) = true := by simpa using htn
        obtain ⟨lk, hlk⟩ : ∃ lk, lk = l.take k := ⟨_, rfl⟩
        obtain ⟨ok, hok⟩ : ∃ ok, ok = o.drop k := ⟨_, rfl⟩
        have hst : crashJ keep torn (k : Int) d.fly d.sure (j + 1) = S.set ad (lk ++ ok) := by
          show stepC keep torn (k : Int) j _ (crashJ keep torn (k : Int) d.fly d.sure j) = _
          rw [← HS.out]
          unfold stepC
          rw [if_pos htn, HGD.out]
          show S.set ad (mixL l (S.getD ad []) (k : Int)) = _
          rw [HO.out]; unfold mixL; rw [HMK.out, ← hlk, ← hok]
        have HST := Lib.hid hst
        have t1 := s1 l (by omega)
        rw [← hlk] at t1
        have t2 := s2 o (by omega)
        rw [← hok] at t2
        have t3' : (9223372036854775807 < (bstr lk).size + (bstr ok).size) = False := by rw [bstr_size, bstr_size, hlk, hok, List.length_take, List.length_drop]; simp; omega
        have t4' : decide (9223372036854775807 < (bstr lk).size + (bstr ok).size) = false := by rw [bstr_size, bstr_size, hlk, hok, List.length_take, List.length_drop]; simp; omega
        clear hst htn s1 s2 hlk hok
        go_wp2_with fail
        go_region
        rw [bstr_app]
        have K5 := KR.cell_ HD3.out.2.1 HBS3.out ad (.string (bstr (lk ++ ok)))
        have D5 := HD3.out.puts ad (lk ++ ok)
        have HD5 := Lib.hid (D5.later (Later.refl _).drew)
        have HK5 := Lib.hid ((HKD3.out.trans K5.1).trans (KR.later (Later.refl _).drew))
        have HB5 := Lib.hid ((HBB3.out.trans K5.2).drew)
        clear K5 D5 c0 c1 e0 e1 k0 hc0 hfr u0 u1 t1 t2 t3' t4'
        go_wp2_with fail
        go_roundw
        case rel => exact CrR.mk _ (j + 1) (by go_num) hlt (by rw [HST.out, HS.out]; exact HD5.out) HK5.out HB5.out
        case measure => simp [intOf]; omega
      · have hte : ((j : Int) == torn) = false := by simpa using htn
        have hkh := HKB.out w3 HKD3.out HBB3.out
        have hno : keptB keep j = false → crashJ keep torn (k : Int) d.fly d.sure (j + 1) = S := fun hkb => by
          show stepC keep torn (k : Int) j _ (crashJ keep torn (k : Int) d.fly d.sure j) = _
          rw [← HS.out]
          unfold stepC
          rw [if_neg htn, hkb]; rfl
        have hyes : keptB keep j = true → crashJ keep torn (k : Int) d.fly d.sure (j + 1) = S.set ad l := fun hkb => by
          show stepC keep torn (k : Int) j _ (crashJ keep torn (k : Int) d.fly d.sure j) = _
          rw [← HS.out]
          unfold stepC
          rw [if_neg htn, if_pos hkb, HGD.out]
        have HNO := Lib.hid hno
        have HYES := Lib.hid hyes
        clear hno hyes htn s1 s2
        by_cases hqn : j / 8 < n
        · have hql : j / 8 < keep.length := by rw [← HN.out]; exact hqn
          obtain ⟨x, hx⟩ : ∃ x, x = keep[j / 8] := ⟨_, rfl⟩
          have hx256 : x < 256 := by rw [hx]; exact HK256.out _ (List.getElem_mem hql)
          have hbit := kept_bit keep j n x HN.out hx256 hqn hx
          obtain ⟨ab, off, hKA, hcell⟩ : ∃ ab off, KA = some ⟨ab, off, none⟩ ∧ w3.cell? ⟨ab, off + j / 8, none⟩ = some (.int .u8 (x : Int)) := by
            rcases hkh with h | ⟨b', o', h1, _, h3⟩
            · have := congrArg List.length h
              rw [ints_length] at this
              rw [show keep.length = 0 from this] at hql
              omega
            · exact ⟨b', o', h1, by rw [hx]; exact h3 (j / 8) _ (ints_get _ _ _ hql)⟩
          subst hKA
          obtain ⟨q, hq⟩ : ∃ q, j / 8 = q := ⟨_, rfl⟩
          obtain ⟨r, hr8⟩ : ∃ r, j % 8 = r := ⟨_, rfl⟩
          have e1' : Int.tdiv (j : Int) 8 = (q : Int) := by rw [← hq]; exact (Int.ofNat_tdiv j 8).symm
          have e2' : (j : Int) / 8 = (q : Int) := by omega
          have e3' : Int.tmod (j : Int) 8 = (r : Int) := by rw [← hr8]; exact (Int.ofNat_tmod j 8).symm
          have e4' : (j : Int) % 8 = (r : Int) := by omega
          have hr7 : r ≤ 7 := by omega
          rw [hq] at hqn hcell
          rw [hr8] at hbit
          have d1 : decide (q < n) = true := by simpa using hqn
          obtain ⟨kb, hkb⟩ : ∃ kb, keptB keep j = kb := ⟨_, rfl⟩
          rw [hkb] at hbit
          have HKBJ := Lib.hid hkb
          clear hkh hql hx hq hr8 hkb
          cases kb
          · go_wp2_with fail
            go_roundw
            case rel => exact CrR.mk _ (j + 1) (by go_num) hlt (by rw [HNO.out HKBJ.out, HS.out]; exact HD3.out) HKD3.out HBB3.out
            case measure => simp [intOf]; omega
          · go_wp2_with fail
            go_region
            have K5 := KR.cell_ HD3.out.2.1 HBS3.out ad (.string (bstr l))
            have D5 := HD3.out.puts ad l
            have HD5 := Lib.hid (D5.later (Later.refl _).drew)
            have HK5 := Lib.hid ((HKD3.out.trans K5.1).trans (KR.later (Later.refl _).drew))
            have HB5 := Lib.hid ((HBB3.out.trans K5.2).drew)
            clear K5 D5 c0 c1 e0 e1 k0 hc0 hfr u0 u1
            go_wp2_with fail
            go_roundw
            case rel => exact CrR.mk _ (j + 1) (by go_num) hlt (by rw [HYES.out HKBJ.out, HS.out]; exact HD5.out) HK5.out HB5.out
            case measure => simp [intOf]; omega
        · have hkb : keptB keep j = false := by
            unfold keptB
            rw [← HN.out, decide_eq_false hqn, Bool.false_and]
          have HKBJ := Lib.hid hkb
          obtain ⟨q, hq⟩ : ∃ q, j / 8 = q := ⟨_, rfl⟩
          have e1' : Int.tdiv (j : Int) 8 = (q : Int) := by rw [← hq]; exact (Int.ofNat_tdiv j 8).symm
          have e2' : (j : Int) / 8 = (q : Int) := by omega
          rw [hq] at hqn
          have d1 : decide (q < n) = false := by simpa using hqn
          clear hkh hkb hq
          go_wp2_with fail
          go_roundw
          case rel => exact CrR.mk _ (j + 1) (by go_num) hlt (by rw [HNO.out HKBJ.out, HS.out]; exact HD3.out) HKD3.out HBB3.out
          case measure => simp [intOf]; omega
    · obtain rfl : j = nf := by omega
      obtain ⟨S, hS⟩ : ∃ S, S = crashJ keep torn (k : Int) d.fly d.sure j := ⟨_, rfl⟩
      rw [← hS] at hdr HD
      have HS := Lib.hid hS
      have L1 := Later.new wr (.cells ([] : List Value).toArray 9)
      have OW := Lib.hid ((Blk.new wr ([] : List Value).toArray 9 _ rfl).ownG (base := wr.heap.size) (size := 1) (n := 0) (Nat.le_refl _) rfl (by decide))
      have HH := Lib.hid ((Has.own hdr.2.1).later L1)
      have HL1 := Lib.hid L1
      have k1 : (wr.alloc (.cells ([] : List Value).toArray 9)).cell? ⟨p, 0, none⟩ = some (.slice (some ⟨gs, 0, none⟩) B cs) := (hdr.1.later L1).cell 0 _ rfl
      have HLS := Lib.hid hdr.slen.1
      clear hdr hkd hbl hS L1 s1 s2
      go_wp2_with (at_builtin; refine wpList_append_rd _ rfl (.tmp 83) (.tmp 87) 43 rfl wr.heap.size 9 (.string ⟨#[]⟩) 16 Try.underlying43 info_st rfl _ 0 [] rfl OW.out _ (some ⟨gs, 0, none⟩) B cs (strsV S) rfl HH.out.rd (by rw [strsV_len]; exact HLS.out.symm) (by intro h; cases h) (strsV_one _) (by unfold maxLen; omega) (by omega) ?_ ?_; (exact HL1.out.size); intro A2 c2 w6 o2 g2 b2 n2; simp only [Nat.zero_add, List.nil_append] at o2; have HO2 := Lib.hid o2; have HB6 := Lib.hid (Later.of (HL1.out.below.trans b2)); have HP6 := Lib.hid (HD.out.later HB6.out); have f6 := HP6.out.1.frozen 1; have k6 := HP6.out.1.cell 1 _ rfl; have P7 := HP6.out.1.set_ 1 (.slice A2 B c2); have f7 := P7.frozen 2; have k7 := P7.cell 2 _ rfl; have P8 := P7.set_ 2 (.slice none 0 0); have f8 := P8.frozen 4; have k8 := P8.cell 4 _ rfl; clear o2 g2 b2 n2 P7 P8)
      obtain ⟨gn2, rfl⟩ := own_some HO2.out hB1
      have hg2 := HO2.out.lt gn2 rfl
      have hgs := HD.out.gb.2.2.1
      have hbw := Nat.le_trans HBASE.out HK.out.2.2.2.1
      have hb6 := Nat.le_trans hbw HB6.out.size
      have R6 : RR w6 base p gs gn2 B cs c2 A j cf S S d.fly #[.slice (some ⟨gs, 0, none⟩) B cs, .slice (some ⟨gn, 0, none⟩) B cn, .slice A j cf, .int .i64 d.writes, .int .i64 (leftR d)] := ⟨HP6.out.1, HP6.out.2.1, own_mono HO2.out hbw, HP6.out.2.2.2.1, by omega, HP6.out.2.2.2.2.2⟩
      have K7 := KR.setp R6 hb6 1 (.slice (some ⟨gn2, 0, none⟩) B c2)
      have R7 := R6.setp 1 (.slice (some ⟨gn2, 0, none⟩) B c2)
      have hb7 := Nat.le_trans hb6 K7.1.2.2.2.1
      have K8 := KR.setp R7 hb7 2 (.slice none 0 0)
      have R8 := (R7.setp 2 (.slice none 0 0)).nil_
      have hb8 := Nat.le_trans hb7 K8.1.2.2.2.1
      have K9 := KR.setp R8 hb8 4 (.int .i64 (-1))
      have R9 := R8.setp 4 (.int .i64 (-1))
      go_end0
      exact ⟨rfl, ⟨_, _, _, _, _, _, RA.of (d := d.cr keep torn (k : Int)) (nf := 0) (by unfold D.cr; rw [← HNF.out, ← HS.out]; exact R9) rfl rfl⟩, (((HK.out.trans (KR.later HB6.out)).trans K7.1).trans K8.1).trans K9.1, (((HB.out.trans (Below.mono HB6.out.below hbw)).trans K7.2).trans K8.2).trans K9.2⟩
set_option maxRecDepth 100000 in
set_option maxHeartbeats 8000000 in
theorem refCrash_high (base p gs gn B cs cn : Nat) (A : Option Addr) (cf : Nat) (d : D) (KA : Option Addr) (n c : Nat) (keep : List Nat) (torn at_ : Int) (w : World) (h : RA w base p gs gn B cs cn A cf d) (hB : 1 ≤ B ∧ B ≤ 4000) (hf : d.fly.length ≤ 100000) (hfl : ∀ x ∈ d.fly, x.1 < B ∧ x.2.length = 128) (hsl : ∀ x ∈ d.sure, x.length = 128) (hbase : base ≤ w.heap.size)
    (hn : n = keep.length) (hn2 : n ≤ 1000) (hr : ∀ W, KR w W → Below base w W → Has W KA (ints .u8 keep)) (h256 : ∀ x ∈ keep, x < 256) (ha : 128 < at_) :
    Calls Try.prog 16 #[dptr p, .slice KA n c, .int .i64 torn, .int .i64 at_] w fun e w' => e = .returned (.tuple #[]) ∧ DoneR base p B (d.cr keep torn at_) w w' := by
  obtain ⟨nf, hnf⟩ : ∃ nf, nf = d.fly.length := ⟨_, rfl⟩
  have HNF := Lib.hid hnf
  have HR := Lib.hid (show RR w base p gs gn B cs cn A nf cf d.sure d.now d.fly #[.slice (some ⟨gs, 0, none⟩) B cs, .slice (some ⟨gn, 0, none⟩) B cn, .slice A nf cf, .int .i64 d.writes, .int .i64 (leftR d)] by rw [hnf]; exact h)
  have HFL := Lib.hid hfl
  have HSL := Lib.hid hsl
  have HBASE := Lib.hid hbase
  have HKB := Lib.hid hr
  have HN := Lib.hid hn
  have HK256 := Lib.hid h256
  have hcs := own_cap h.2.1
  have hnf9 : nf ≤ 100000 := by omega
  have hB1 := hB.1
  have hB4 := hB.2
  have HLEN := Lib.hid (crashJ_128 keep torn at_ d.fly d.sure (fun x hx => (hfl x hx).2) hsl)
  clear h hB hf hfl hsl hbase hr hn h256 hnf
  have hd : max at_ 0 = at_ := by omega
  have hd2 : min at_ 128 = 128 := by omega
  have HMK := Lib.hid (show mixK at_ = 128 by unfold mixK; omega)
  have s1 := fun l hl W => slice_to 128 128 rfl l hl W
  have s2 := fun l hl W => slice_from 128 128 rfl l hl W
  have k2 : w.cell? ⟨p, 2, none⟩ = some (.slice A nf cf) := HR.out.1.cell 2 _ rfl
  go_enter Try.func16, Try.ntmps16
  go_wp2_with fail
  clear k2
  go_loopw [8] (fun iv wr => CrR base p gs gn B cs cn A nf cf keep torn at_ d #[.slice (some ⟨gs, 0, none⟩) B cs, .slice (some ⟨gn, 0, none⟩) B cn, .slice A nf cf, .int .i64 d.writes, .int .i64 (leftR d)] w iv wr) (fun iv _ => nf - (intOf iv).toNat)
  case atStart => exact CrR.mk 0 0 rfl (Nat.zero_le _) HR.out (KR.refl _) (Below.refl _ _)
  case round =>
    obtain ⟨j, rfl, hj, hdr, hkd, hbl⟩ := hrel
    have HB := Lib.hid hbl
    have HK := Lib.hid hkd
    have HD := Lib.hid hdr
    have k2 : wr.cell? ⟨p, 2, none⟩ = some (.slice A nf cf) := hdr.1.cell 2 _ rfl
    by_cases hlt : j < nf
    · have hjl : j < d.fly.length := by rw [← HNF.out]; exact hlt
      obtain ⟨ga, rfl, c0, c1, hncf⟩ := hdr.wait j hlt hjl
      have hgd : d.fly.getD j (0, []) = d.fly[j] := by rw [List.getD, List.getElem?_eq_getElem hjl]; rfl
      obtain ⟨⟨ad, l⟩, hx⟩ : ∃ x, x = d.fly[j] := ⟨_, rfl⟩
      rw [← hx] at c0 c1 hgd
      have c0 : wr.cell? ⟨ga, j * 2, none⟩ = some (.int .i64 (ad : Int)) := c0
      have c1 : wr.cell? ⟨ga, j * 2 + 1, none⟩ = some (.string (bstr l)) := c1
      have hxm := HFL.out (ad, l) (by rw [hx]; exact List.getElem_mem _)
      have hat : ad < B := hxm.1
      have hl128 : l.length = 128 := hxm.2
      have HGD := Lib.hid hgd
      have L3 := Later.new wr (.cells #[.int .i64 ad, .string (bstr l)] 63)
      have D3 := hdr.later L3
      have HD3 := Lib.hid D3
      have HL3 := Lib.hid L3
      have B3 := Blk.new wr #[.int .i64 ad, .string (bstr l)] 63 wr.heap.size rfl
      have u0 := (Blk.new wr #[.int .i64 0, .string ⟨#[]⟩] 63 wr.heap.size rfl).frozen 0
      have u1 := (Blk.new wr #[.int .i64 0, .string ⟨#[]⟩] 63 wr.heap.size rfl).frozen 1
      obtain ⟨w3, hw3⟩ : ∃ x, wr.alloc (.cells #[.int .i64 ad, .string (bstr l)] 63) = x := ⟨_, rfl⟩
      rw [hw3] at D3 HD3 HL3 B3
      have HKD3 := Lib.hid (HK.out.trans (KR.later HL3.out))
      have HBS3 := Lib.hid (Nat.le_trans HBASE.out HKD3.out.2.2.2.1)
      have HBB3 := Lib.hid (HB.out.trans (Below.mono HL3.out.below (Nat.le_trans HBASE.out HK.out.2.2.2.1)))
      obtain ⟨t3, ht3⟩ : ∃ x, wr.heap.size = x := ⟨_, rfl⟩
      rw [ht3] at B3 u0 u1
      have e0 := B3.cell 0 _ rfl
      have e1 := B3.cell 1 _ rfl
      have k0 : w3.cell? ⟨p, 0, none⟩ = some (.slice (some ⟨gs, 0, none⟩) B cs) := D3.1.cell 0 _ rfl
      obtain ⟨S, hS⟩ : ∃ S, S = crashJ keep torn at_ d.fly d.sure j := ⟨_, rfl⟩
      have hadS : ad < S.length := by rw [hS, D3.slen.1]; exact hat
      obtain ⟨o, ho⟩ : ∃ o, o = S[ad] := ⟨_, rfl⟩
      have ho128 : o.length = 128 := HLEN.out j (by omega) o (by rw [ho, ← hS]; exact List.getElem_mem _)
      have hc0 : w3.cell? ⟨gs, ad, none⟩ = some (.string (bstr o)) := by rw [D3.2.1.cellAt ad (by omega), ← hS, strsV_get S ad hadS, ho]
      have hfr := D3.2.1.frozenAt ad
      have HS := Lib.hid hS
      have HO := Lib.hid (show S.getD ad [] = o by rw [List.getD, List.getElem?_eq_getElem hadS, ho]; rfl)
      clear hdr hkd hbl hjl hgd hx L3 D3 hS ho hadS hxm B3
      by_cases htn : (j : Int) = torn
      · have hte : ((j : Int) == torn) = true := by simpa using htn
        obtain ⟨lk, hlk⟩ : ∃ lk, lk = l.take 128 := ⟨_, rfl⟩
        obtain ⟨ok, hok⟩ : ∃ ok, ok = o.drop 128 := ⟨_, rfl⟩
        have hst : crashJ keep torn at_ d.fly d.sure (j + 1) = S.set ad (lk ++ ok) := by
          show stepC keep torn at_ j _ (crashJ keep torn at_ d.fly d.sure j) = _
          rw [← HS.out]
          unfold stepC
          rw [if_pos htn, HGD.out]
          show S.set ad (mixL l (S.getD ad []) at_) = _
          rw [HO.out]; unfold mixL; rw [HMK.out, ← hlk, ← hok]
        have HST := Lib.hid hst
        have t1 := s1 l (by omega)
        rw [← hlk] at t1
        have t2 := s2 o (by omega)
        rw [← hok] at t2
        have t3' : (9223372036854775807 < (bstr lk).size + (bstr ok).size) = False := by rw [bstr_size, bstr_size, hlk, hok, List.length_take, List.length_drop]; simp; omega
        have t4' : decide (9223372036854775807 < (bstr lk).size + (bstr ok).size) = false := by rw [bstr_size, bstr_size, hlk, hok, List.length_take, List.length_drop]; simp; omega
        clear hst htn s1 s2 hlk hok
        go_wp2_with fail
        go_region
        rw [bstr_app]
        have K5 := KR.cell_ HD3.out.2.1 HBS3.out ad (.string (bstr (lk ++ ok)))
        have D5 := HD3.out.puts ad (lk ++ ok)
        have HD5 := Lib.hid (D5.later (Later.refl _).drew)
        have HK5 := Lib.hid ((HKD3.out.trans K5.1).trans (KR.later (Later.refl _).drew))
        have HB5 := Lib.hid ((HBB3.out.trans K5.2).drew)
        clear K5 D5 c0 c1 e0 e1 k0 hc0 hfr u0 u1 t1 t2 t3' t4'
        go_wp2_with fail
        go_roundw
        case rel => exact CrR.mk _ (j + 1) (by go_num) hlt (by rw [HST.out, HS.out]; exact HD5.out) HK5.out HB5.out
        case measure => simp [intOf]; omega
      · have hte : ((j : Int) == torn) = false := by simpa using htn
        have hkh := HKB.out w3 HKD3.out HBB3.out
        have hno : keptB keep j = false → crashJ keep torn at_ d.fly d.sure (j + 1) = S := fun hkb => by
          show stepC keep torn at_ j _ (crashJ keep torn at_ d.fly d.sure j) = _
          rw [← HS.out]
          unfold stepC
          rw [if_neg htn, hkb]; rfl
        have hyes : keptB keep j = true → crashJ keep torn at_ d.fly d.sure (j + 1) = S.set ad l := fun hkb => by
          show stepC keep torn at_ j _ (crashJ keep torn at_ d.fly d.sure j) = _
          rw [← HS.out]
          unfold stepC
          rw [if_neg htn, if_pos hkb, HGD.out]
        have HNO := Lib.hid hno
        have HYES := Lib.hid hyes
        clear hno hyes htn s1 s2
        by_cases hqn : j / 8 < n
        · have hql : j / 8 < keep.length := by rw [← HN.out]; exact hqn
          obtain ⟨x, hx⟩ : ∃ x, x = keep[j / 8] := ⟨_, rfl⟩
          have hx256 : x < 256 := by rw [hx]; exact HK256.out _ (List.getElem_mem hql)
          have hbit := kept_bit keep j n x HN.out hx256 hqn hx
          obtain ⟨ab, off, hKA, hcell⟩ : ∃ ab off, KA = some ⟨ab, off, none⟩ ∧ w3.cell? ⟨ab, off + j / 8, none⟩ = some (.int .u8 (x : Int)) := by
            rcases hkh with h | ⟨b', o', h1, _, h3⟩
            · have := congrArg List.length h
              rw [ints_length] at this
              rw [show keep.length = 0 from this] at hql
              omega
            · exact ⟨b', o', h1, by rw [hx]; exact h3 (j / 8) _ (ints_get _ _ _ hql)⟩
          subst hKA
          obtain ⟨q, hq⟩ : ∃ q, j / 8 = q := ⟨_, rfl⟩
          obtain ⟨r, hr8⟩ : ∃ r, j % 8 = r := ⟨_, rfl⟩
          have e1' : Int.tdiv (j : Int) 8 = (q : Int) := by rw [← hq]; exact (Int.ofNat_tdiv j 8).symm
          have e2' : (j : Int) / 8 = (q : Int) := by omega
          have e3' : Int.tmod (j : Int) 8 = (r : Int) := by rw [← hr8]; exact (Int.ofNat_tmod j 8).symm
          have e4' : (j : Int) % 8 = (r : Int) := by omega
          have hr7 : r ≤ 7 := by omega
          rw [hq] at hqn hcell
          rw [hr8] at hbit
          have d1 : decide (q < n) = true := by simpa using hqn
          obtain ⟨kb, hkb⟩ : ∃ kb, keptB keep j = kb := ⟨_, rfl⟩
          rw [hkb] at hbit
          have HKBJ := Lib.hid hkb
          clear hkh hql hx hq hr8 hkb
          cases kb
          · go_wp2_with fail
            go_roundw
            case rel => exact CrR.mk _ (j + 1) (by go_num) hlt (by rw [HNO.out HKBJ.out, HS.out]; exact HD3.out) HKD3.out HBB3.out
            case measure => simp [intOf]; omega
          · go_wp2_with fail
            go_region
            have K5 := KR.cell_ HD3.out.2.1 HBS3.out ad (.string (bstr l))
            have D5 := HD3.out.puts ad l
            have HD5 := Lib.hid (D5.later (Later.refl _).drew)
            have HK5 := Lib.hid ((HKD3.out.trans K5.1).trans (KR.later (Later.refl _).drew))
            have HB5 := Lib.hid ((HBB3.out.trans K5.2).drew)
            clear K5 D5 c0 c1 e0 e1 k0 hc0 hfr u0 u1
            go_wp2_with fail
            go_roundw
            case rel => exact CrR.mk _ (j + 1) (by go_num) hlt (by rw [HYES.out HKBJ.out, HS.out]; exact HD5.out) HK5.out HB5.out
            case measure => simp [intOf]; omega
        · have hkb : keptB keep j = false := by
            unfold keptB
            rw [← HN.out, decide_eq_false hqn, Bool.false_and]
          have HKBJ := Lib.hid hkb
          obtain ⟨q, hq⟩ : ∃ q, j / 8 = q := ⟨_, rfl⟩
          have e1' : Int.tdiv (j : Int) 8 = (q : Int) := by rw [← hq]; exact (Int.ofNat_tdiv j 8).symm
          have e2' : (j : Int) / 8 = (q : Int) := by omega
          rw [hq] at hqn
          have d1 : decide (q < n) = false := by simpa using hqn
          clear hkh hkb hq
          go_wp2_with fail
          go_roundw
          case rel => exact CrR.mk _ (j + 1) (by go_num) hlt (by rw [HNO.out HKBJ.out, HS.out]; exact HD3.out) HKD3.out HBB3.out
          case measure => simp [intOf]; omega
    · obtain rfl : j = nf := by omega
      obtain ⟨S, hS⟩ : ∃ S, S = crashJ keep torn at_ d.fly d.sure j := ⟨_, rfl⟩
      rw [← hS] at hdr HD
      have HS := Lib.hid hS
      have L1 := Later.new wr (.cells ([] : List Value).toArray 9)
      have OW := Lib.hid ((Blk.new wr ([] : List Value).toArray 9 _ rfl).ownG (base := wr.heap.size) (size := 1) (n := 0) (Nat.le_refl _) rfl (by decide))
      have HH := Lib.hid ((Has.own hdr.2.1).later L1)
      have HL1 := Lib.hid L1
      have k1 : (wr.alloc (.cells ([] : List Value).toArray 9)).cell? ⟨p, 0, none⟩ = some (.slice (some ⟨gs, 0, none⟩) B cs) := (hdr.1.later L1).cell 0 _ rfl
      have HLS := Lib.hid hdr.slen.1
      clear hdr hkd hbl hS L1 s1 s2
      go_wp2_with (at_builtin; refine wpList_append_rd _ rfl (.tmp 83) (.tmp 87) 43 rfl wr.heap.size 9 (.string ⟨#[]⟩) 16 Try.underlying43 info_st rfl _ 0 [] rfl OW.out _ (some ⟨gs, 0, none⟩) B cs (strsV S) rfl HH.out.rd (by rw [strsV_len]; exact HLS.out.symm) (by intro h; cases h) (strsV_one _) (by unfold maxLen; omega) (by omega) ?_ ?_; (exact HL1.out.size); intro A2 c2 w6 o2 g2 b2 n2; simp only [Nat.zero_add, List.nil_append] at o2; have HO2 := Lib.hid o2; have HB6 := Lib.hid (Later.of (HL1.out.below.trans b2)); have HP6 := Lib.hid (HD.out.later HB6.out); have f6 := HP6.out.1.frozen 1; have k6 := HP6.out.1.cell 1 _ rfl; have P7 := HP6.out.1.set_ 1 (.slice A2 B c2); have f7 := P7.frozen 2; have k7 := P7.cell 2 _ rfl; have P8 := P7.set_ 2 (.slice none 0 0); have f8 := P8.frozen 4; have k8 := P8.cell 4 _ rfl; clear o2 g2 b2 n2 P7 P8)
      obtain ⟨gn2, rfl⟩ := own_some HO2.out hB1
      have hg2 := HO2.out.lt gn2 rfl
      have hgs := HD.out.gb.2.2.1
      have hbw := Nat.le_trans HBASE.out HK.out.2.2.2.1
      have hb6 := Nat.le_trans hbw HB6.out.size
      have R6 : RR w6 base p gs gn2 B cs c2 A j cf S S d.fly #[.slice (some ⟨gs, 0, none⟩) B cs, .slice (some ⟨gn, 0, none⟩) B cn, .slice A j cf, .int .i64 d.writes, .int .i64 (leftR d)] := ⟨HP6.out.1, HP6.out.2.1, own_mono HO2.out hbw, HP6.out.2.2.2.1, by omega, HP6.out.2.2.2.2.2⟩
      have K7 := KR.setp R6 hb6 1 (.slice (some ⟨gn2, 0, none⟩) B c2)
      have R7 := R6.setp 1 (.slice (some ⟨gn2, 0, none⟩) B c2)
      have hb7 := Nat.le_trans hb6 K7.1.2.2.2.1
      have K8 := KR.setp R7 hb7 2 (.slice none 0 0)
      have R8 := (R7.setp 2 (.slice none 0 0)).nil_
      have hb8 := Nat.le_trans hb7 K8.1.2.2.2.1
      have K9 := KR.setp R8 hb8 4 (.int .i64 (-1))
      have R9 := R8.setp 4 (.int .i64 (-1))
      go_end0
      exact ⟨rfl, ⟨_, _, _, _, _, _, RA.of (d := d.cr keep torn at_) (nf := 0) (by unfold D.cr; rw [← HNF.out, ← HS.out]; exact R9) rfl rfl⟩, (((HK.out.trans (KR.later HB6.out)).trans K7.1).trans K8.1).trans K9.1, (((HB.out.trans (Below.mono HB6.out.below hbw)).trans K7.2).trans K8.2).trans K9.2⟩
set_option maxRecDepth 100000 in
set_option maxHeartbeats 8000000 in
theorem refCrash_any (base p gs gn B cs cn : Nat) (A : Option Addr) (cf : Nat) (d : D) (KA : Option Addr) (n c : Nat) (keep : List Nat) (torn at_ : Int) (w : World) (h : RA w base p gs gn B cs cn A cf d) (hB : 1 ≤ B ∧ B ≤ 4000) (hf : d.fly.length ≤ 100000) (hfl : ∀ x ∈ d.fly, x.1 < B ∧ x.2.length = 128) (hsl : ∀ x ∈ d.sure, x.length = 128) (hbase : base ≤ w.heap.size)
    (hn : n = keep.length) (hn2 : n ≤ 1000) (hr : ∀ W, KR w W → Below base w W → Has W KA (ints .u8 keep)) (h256 : ∀ x ∈ keep, x < 256) :
    Calls Try.prog 16 #[dptr p, .slice KA n c, .int .i64 torn, .int .i64 at_] w fun e w' => e = .returned (.tuple #[]) ∧ DoneR base p B (d.cr keep torn at_) w w' := by
  by_cases h0 : at_ < 0
  · exact refCrash_low base p gs gn B cs cn A cf d KA n c keep torn at_ w h hB hf hfl hsl hbase hn hn2 hr h256 h0
  · by_cases h1 : 128 < at_
    · exact refCrash_high base p gs gn B cs cn A cf d KA n c keep torn at_ w h hB hf hfl hsl hbase hn hn2 hr h256 h1
    · obtain ⟨k, rfl⟩ := Int.eq_ofNat_of_zero_le (show 0 ≤ at_ by omega)
      exact refCrash_mid base p gs gn B cs cn A cf d KA n c keep torn k w h hB hf hfl hsl hbase hn hn2 hr h256 (by omega)
end Go.Proofs.Ytnmldploafpbdaa
