/- The walk of PartOnce. (tools/gen_partonce.py) -/
import Derived.Test.YtphiggjgapaaiaaPlayB
import Derived.Test.YtphiggjgapaaiaaPartC
namespace Go.Proofs.Ytphiggjgapaaiaa
open Go.RowKit
set_option linter.unusedVariables false

theorem heightC_eq (l : List (List Val3)) (N : Nat) (h0 : l ≠ []) (h : ∀ x ∈ l, x.length = N) : heightC l = N := by
  have key : ∀ (r : List (List Val3)) (n : Nat), n = N → (∀ x ∈ r, x.length = N) → r.foldl (fun n x => min n x.length) n = N := by
    intro r
    induction r with
    | nil => intro n hn _; exact hn
    | cons c r ih => intro n hn hr; exact ih _ (by show min n c.length = N; rw [hr c (by simp), hn, Nat.min_self]) fun x hx => hr x (by simp [hx])
  cases l with
  | nil => exact absurd rfl h0
  | cons c r => exact key r _ (h c (by simp)) fun x hx => h x (by simp [hx])
/-- What the law's loops lean on: the table of parts, and where each row was seen. -/
def Wh (F : Nat → Nat) (p j gw : Nat) (w9 wr : World) : Prop := Later w9 wr ∧ Blk wr gw ((whA F p j).map (Value.int .i64)).toArray 38
theorem Wh.cell {F : Nat → Nat} {p j gw : Nat} {w9 wr : World} (h : Wh F p j gw w9 wr) (r : Nat) (hr : r < 20) : wr.cell? ⟨gw, r, none⟩ = some (.int .i64 ((whA F p j)[r]'(by rw [whA_len]; exact hr))) := h.2.cell r _ (by
  rw [List.getElem?_toArray, List.getElem?_map, List.getElem?_eq_getElem (by rw [whA_len]; exact hr)]; rfl)
theorem Wh.drewN {F : Nat → Nat} {p j gw : Nat} {w9 wr : World} (h : Wh F p j gw w9 wr) (d : Nat) : Wh F p j gw w9 (wr.drewN d) := ⟨h.1.drewN d, h.2⟩
theorem Wh.step {F : Nat → Nat} {p j gw : Nat} {w9 wr : World} (h : Wh F p j gw w9 wr) (hg : gw = w9.heap.size) (hj : j < (inPart F 20 p).length) : Wh F p (j + 1) gw w9 (wr.setCell ⟨gw, (inPart F 20 p)[j], none⟩ (.int .i64 ((p : Int) + 1))) := by
  refine ⟨h.1.set_ (by show w9.heap.size ≤ gw; omega) _, ?_⟩
  have := h.2.set_ (inPart F 20 p)[j] (.int .i64 ((p : Int) + 1))
  rwa [List.setIfInBounds_toArray, ← List.map_set, whA_step F p j hj] at this

set_option maxRecDepth 100000 in
theorem partOnce_long (A : Option Addr) (n c : Nat) (a q : Int) (w : World) (hn : 60 < n) :
    Calls Try.prog 3 #[.slice A n c, .int .u8 a, .int .u8 q] w fun e w' => e = .returned (.bool true) ∧ Later w w' := by
  have HB := Lib.hid (begun14_any w)
  go_enter Try.func3, Try.ntmps3
  go_wp2_with fail
  refine HB.out.mono ?_
  rintro e w1 ⟨rfl, l1⟩
  have HL1 := Lib.hid l1
  clear l1 HB
  have hn60 : (60 : Int) < (n : Int) := by omega
  go_wp2_with fail
  go_ret
  exact ⟨rfl, HL1.out⟩

set_option maxRecDepth 100000 in
set_option maxHeartbeats 8000000 in
theorem partOnce_walk (A : Option Addr) (n c : Nat) (bs : List Nat) (a q : Nat) (w : World) (hb : bs.length = n) (hn : n ≤ 60) (hr : Has w A (ints .u8 bs)) (h256 : ∀ x ∈ bs, x < 256) (ha : a < 256) (hq : q < 256) :
    Calls Try.prog 3 #[.slice A n c, .int .u8 a, .int .u8 q] w fun e w' => e = .returned (.bool true) ∧ Later w w' := by
  have HB := Lib.hid (begun14_any w)
  have HR := Lib.hid hr
  have hc : PkC n bs := ⟨by omega, hb, h256⟩
  have HCC := Lib.hid hc
  clear hr h256 hb hc
  go_enter Try.func3, Try.ntmps3
  go_wp2_with fail
  refine HB.out.mono ?_
  rintro e w1 ⟨rfl, l1⟩
  have HL1 := Lib.hid l1
  have HR1 := Lib.hid (HR.out.later l1)
  obtain ⟨g, hg⟩ : ∃ g, w1.heap.size = g := ⟨_, rfl⟩
  clear l1 HB HR
  have hn60 : ((60 : Int) < (n : Int)) = False := by simp; omega
  go_wp2_with (go_at_call 5; refine (made_any A n c _).mono ?_; rintro e w2 ⟨rfl, hw2⟩)
  have l2 : Later w1 w2 := hw2 ▸ Later.new _ _
  have HPK2 := Lib.hid (show Pks w2 g A n c bs from ⟨⟨0, Nat.zero_le _, hw2 ▸ Blk.new _ _ _ g hg.symm⟩, by
    have h := HR1.out
    rcases h with h | ⟨b, off, hA, hb, hcc⟩
    · exact .inl h
    · exact .inr ⟨b, off, hA, by omega, fun k v hv => l2.cell (hcc k v hv)⟩⟩)
  have HL2 := Lib.hid l2
  have HPK2L := Lib.hid HPK2.out.lt
  have HG0 := Lib.hid hg
  clear l2 hw2 HR1 hg hn60
  refine (schema_any g A n c bs w2 HCC.out HPK2.out).mono ?_
  rintro e w3 ⟨t0, m, ts, V, vc, es, E, ec, d0, d1, d2, rfl, ⟨hm, htl, ht0, hts⟩, ⟨hes, het, hlay⟩, rs⟩
  obtain ⟨cols, hcols⟩ : ∃ x, playCols t0 m ts = x := ⟨_, rfl⟩
  rw [hcols] at rs
  have hcl : cols.length = m + 2 := by rw [← hcols, playCols_len, htl]
  obtain ⟨vn, hvn⟩ : ∃ x, m + 2 = x := ⟨_, rfl⟩
  rw [hvn] at rs hcl
  rw [hvn]
  have hvb : 2 ≤ vn ∧ vn ≤ 4 := by omega
  have HCL := Lib.hid hcl
  have hVX : HasX (some g) w3 V (fc cols) := HasX.own rs.oV fun _ h => by injection h with h; rw [← h]; exact rs.far.1
  have HRS := Lib.hid rs
  obtain ⟨gs, hgs⟩ : ∃ x, w3.heap.size = x := ⟨_, rfl⟩
  have HGG := Lib.hid (show g < gs by rw [← hgs]; exact Nat.lt_of_lt_of_le HPK2.out.lt rs.far.size)
  obtain ⟨w4, hw4⟩ : ∃ x : World, (w3.alloc (.cells #[.slice V vn vc, .int .i64 vn] 28)).alloc (.cells #[.int .i64 d0, .int .i64 d1, .int .i64 d2, .slice E vn ec] 31) = x := ⟨_, rfl⟩
  have l4 : Later w3 w4 := hw4 ▸ (Later.new _ _).alloc _
  have HS4 := Lib.hid (show Blk w4 gs #[.slice V vn vc, .int .i64 vn] 28 from hw4 ▸ (Blk.new w3 _ _ gs hgs.symm).later (Later.new _ _))
  have HGS4 := Lib.hid (show gs < w4.heap.size from HS4.out.lt)
  have hz4 : w4.heap.size = gs + 2 := by rw [← hw4, ← hgs]; simp
  have HP4 := Lib.hid (rs.pk.later l4)
  have HF4 := Lib.hid (rs.far.later l4)
  have HV4 := Lib.hid (hVX.later l4)
  clear hcols hvn hcl l4 HRS rs hts het hlay hes ht0 htl HPK2 hVX
  have s0 := HS4.out.cell 0 _ rfl
  have s1 := HS4.out.cell 1 _ rfl
  have HBT := Lib.hid (batch_any 20 g A n c bs V vn vc (vn : Int) cols w4 HCC.out HP4.out HCL.out.symm (by omega) (by omega) HV4.out)
  obtain ⟨k, hk⟩ : ∃ k, a % vn = k := ⟨_, rfl⟩
  have hkv : k < vn := hk ▸ Nat.mod_lt _ (by omega)
  have hkm : (a : Int).tmod (vn : Int) = (k : Int) := by rw [Int.tmod_eq_emod_of_nonneg (by omega), ← hk]; simp
  have hwk : IntKind.i64.wrap (k : Int) = (k : Int) := IntWalk.i64_in _ ⟨by omega, by omega⟩
  have hwa : IntKind.i64.wrap (a : Int) = (a : Int) := IntWalk.i64_in _ ⟨by omega, by omega⟩
  obtain ⟨mq, hmq⟩ : ∃ x, q % 4 = x := ⟨_, rfl⟩
  have hm4 : mq < 4 := hmq ▸ Nat.mod_lt _ (by omega)
  have hqm : (q : Int).tmod 4 = (mq : Int) := by rw [Int.tmod_eq_emod_of_nonneg (by omega), ← hmq]; simp
  have hqz : (q : Int) % 4 = (mq : Int) := by rw [← hmq]; simp
  have hwq8 : IntKind.u8.wrap (mq : Int) = (mq : Int) := by rw [IntKind.wrap_u8]; omega
  have hwq : IntKind.i64.wrap (mq : Int) = (mq : Int) := IntWalk.i64_in _ ⟨by omega, by omega⟩
  obtain ⟨M, hM⟩ : ∃ M, 1 + mq = M := ⟨_, rfl⟩
  have hMi : (1 : Int) + (mq : Int) = (M : Int) := by omega
  have hwM : IntKind.i64.wrap (M : Int) = (M : Int) := IntWalk.i64_in _ ⟨by omega, by omega⟩
  have hMb : 1 ≤ M ∧ M ≤ 4 := by omega
  have hv0 : ((vn : Int) == 0) = false := by simp; omega
  clear hk hmq hM
  go_wp2_with fail
  refine HBT.out.mono ?_
  rintro e w5 ⟨gc, zs, rfl, hzl, hzr, hz20, hp5, hf5⟩
  have HZR := Lib.hid hzr
  have HZL := Lib.hid hzl
  have HZ20 := Lib.hid hz20
  have HL5 := Lib.hid (HL1.out.trans ((HF4.out.trans hf5).out HG0.out.symm HL2.out))
  have HAP := Lib.hid (apart_any (some ⟨gc, 0, none⟩) vn vn zs k M w5 hzl.symm (by omega) hzr (fun s hs => ⟨by rw [(hz20 s hs).1]; omega, (hz20 s hs).2⟩) hkv hMb)
  clear hzl hzr hz20 hp5 hf5 HBT HP4 HF4 HV4 HS4 HGS4 s0 s1 hw4 hz4 hgs HGG HPK2L HCC HL1 HL2 HG0 HCL
  have hMi1 : (mq : Int) + 1 = (M : Int) := by omega
  have HHT := Lib.hid (show heightC (colsOf zs) = 20 from heightC_eq _ 20 (fun e => by have h1 := congrArg List.length e; have := HZL.out; simp [colsOf] at h1; subst h1; simp at this; omega) fun x hx => by
    obtain ⟨s, hs, rfl⟩ := List.mem_map.1 hx
    exact (HZ20.out s hs).1)
  rw [HHT.out] at HAP
  have HKZ := Lib.hid (show k < zs.length by rw [HZL.out]; exact hkv)
  have HFE := Lib.hid (show ∀ (i : Nat) (h : i < (zs[k]'HKZ.out).l.length), partF (colsOf zs) k M i = partV (zs[k]'HKZ.out).l[i] M from fun i h => by
    unfold partF
    have h1 : (colsOf zs).getD k [] = (zs[k]'HKZ.out).l := by
      unfold colsOf
      rw [List.getD_eq_getElem?_getD, List.getElem?_map, List.getElem?_eq_getElem HKZ.out]; rfl
    rw [h1, List.getD_eq_getElem?_getD, List.getElem?_eq_getElem h]; rfl)
  have HFM := Lib.hid (show ∀ i, i < 20 → partF (colsOf zs) k M i < M from fun i _ => partF_lt _ _ _ _ hMb.1)
  generalize partF (colsOf zs) k M = F at HAP HFE HFM
  clear HHT
  go_wp2_with fail
  refine HAP.out.mono ?_
  rintro e w9 ⟨ga, ss, rfl, hpt, htab, l9⟩
  have HPT := Lib.hid hpt
  have HTAB := Lib.hid htab
  have HL9 := Lib.hid (HL5.out.trans l9)
  have HZR9 := Lib.hid (HZR.out.later l9)
  obtain ⟨gw, hgw⟩ : ∃ x, w9.heap.size = x := ⟨_, rfl⟩
  obtain ⟨w10, hw10⟩ : ∃ x, w9.alloc (.cells #[Value.int .i64 0, Value.int .i64 0, Value.int .i64 0, Value.int .i64 0, Value.int .i64 0, Value.int .i64 0, Value.int .i64 0, Value.int .i64 0, Value.int .i64 0, Value.int .i64 0, Value.int .i64 0, Value.int .i64 0, Value.int .i64 0, Value.int .i64 0, Value.int .i64 0, Value.int .i64 0, Value.int .i64 0, Value.int .i64 0, Value.int .i64 0, Value.int .i64 0] 38) = x := ⟨_, rfl⟩
  have HW0 := Lib.hid (show Wh F 0 0 gw w9 w10 from ⟨hw10 ▸ Later.new _ _, by
    rw [whA_start]
    exact hw10 ▸ Blk.new w9 _ _ _ hgw.symm⟩)
  have HGW := Lib.hid hgw.symm
  have HW10 := Lib.hid hw10
  have HS20 := Lib.hid (fun p (h : p ≤ M) => seenA_le F M p HFM.out h)
  clear hpt htab l9 HAP HL5 HZR hw10
  go_wp2_with fail
  rw [HW10.out]
  clear HW10
  go_loopw [15, 14] (fun iv sv wr => ∃ p : Nat, p ≤ M ∧ iv = .int .i64 p ∧ sv = .int .i64 (seenA F p : Nat) ∧ Wh F p 0 gw w9 wr) (fun i _ _ => M - (intOf i).toNat)
  case atStart => exact ⟨0, Nat.zero_le _, rfl, rfl, HW0.out⟩
  case round =>
    obtain ⟨p, hp, rfl, rfl, hwh⟩ := hrel
    clear HW0
    by_cases hpM : p < M
    · have hps : p < ss.length := by rw [HPT.out.1]; exact hpM
      have ck9 := HTAB.out.cell p hps
      rw [(HPT.out.2 p hps).2] at ck9
      have hrw := HTAB.out.has p hps
      rw [(HPT.out.2 p hps).1] at hrw
      have HRW := Lib.hid hrw
      have hsn := seenA_succ F p
      have hs20 := HS20.out (p + 1) hpM
      obtain ⟨sp, hsp⟩ : ∃ x, seenA F p = x := ⟨_, rfl⟩
      obtain ⟨ln, hln⟩ : ∃ x, (inPart F 20 p).length = x := ⟨_, rfl⟩
      have HLN := Lib.hid hln
      have HSN := Lib.hid (show seenA F (p + 1) = sp + ln by rw [hsn, hsp, hln])
      rw [hsp, hln] at hsn
      rw [hsp]
      rw [hln] at ck9
      have hsl : sp + ln ≤ 20 := by omega
      generalize ss[p].a = ra at ck9 HRW
      generalize ss[p].c = rc at ck9
      have ck := hwh.1.cell ck9
      have HCK := Lib.hid ck9
      have hpi : (p : Int) < (M : Int) := by omega
      have HJ0 := Lib.hid hwh
      have hwp : IntKind.i64.wrap ((p : Int) + 1) = (p : Int) + 1 := IntWalk.i64_in _ ⟨by omega, by omega⟩
      clear hrw hsn hs20 ck9 hwh hps hln hsp
      go_wp2_with fail
      go_loopw [16, 14] (fun jv sv wr => ∃ j : Nat, j ≤ ln ∧ jv = .int .i64 j ∧ sv = .int .i64 ((sp + j : Nat) : Int) ∧ Wh F p j gw w9 wr) (fun j _ _ => ln - (intOf j).toNat)
      case atStart => exact ⟨0, Nat.zero_le _, rfl, rfl, HJ0.out⟩
      case round =>
        obtain ⟨j, hj, rfl, rfl, hwh⟩ := hrel
        clear HJ0
        have ck := hwh.1.cell HCK.out
        by_cases hjl : j < ln
        · have hjp : j < (inPart F 20 p).length := by have := HLN.out; omega
          obtain ⟨rb, ro, hA, _, cr9⟩ := HRW.out.at_ (k := j) (by rw [zinP_len]; exact hjp)
          have hA2 := Lib.hid hA
          subst hA
          have cr := hwh.1.cell cr9
          have hz : (zinP (inPart F 20 p))[j]'(by rw [zinP_len]; exact hjp) = .int .i64 (((inPart F 20 p)[j] : Nat) : Int) := by simp [zinP]
          rw [hz] at cr
          have hr20 := (inPart_get F p j hjp).1
          have cw := hwh.cell _ hr20
          rw [whA_no F p j hjp] at cw
          have fw := hwh.2.frozen (inPart F 20 p)[j]
          have HST := Lib.hid (hwh.step HGW.out hjp)
          have HUP := Lib.hid (fun j' (h : j' + 1 = j) => show (inPart F 20 p)[j']'(by omega) < (inPart F 20 p)[j] from by subst h; exact inPart_up F p j' hjp)
          have HWH := Lib.hid hwh
          clear cr9 hz hwh
          have hrs : ((inPart F 20 p)[j] : Nat) = (inPart F 20 p)[j] := rfl
          obtain ⟨r, hr⟩ : ∃ r, (inPart F 20 p)[j] = r := ⟨_, rfl⟩
          rw [hr] at cr hr20 cw fw HST HUP
          have hji : (j : Int) < (ln : Int) := by omega
          have g1 : ¬ (r : Int) < 0 := by omega
          have g2 : ¬ 19 < (r : Int) := by omega
          have hwj : IntKind.i64.wrap ((j : Int) + 1) = (j : Int) + 1 := IntWalk.i64_in _ ⟨by omega, by omega⟩
          have hws : IntKind.i64.wrap (((sp + j : Nat) : Int) + 1) = ((sp + j : Nat) : Int) + 1 := IntWalk.i64_in _ ⟨by omega, by omega⟩
          clear hrs hr
          by_cases hj0 : j = 0
          · subst hj0
            rw [Nat.add_zero] at cr
            go_wp2_with fail
            go_roundw
            all_goals first
              | exact ⟨1, by omega, by go_num, by go_num, HST.out⟩
              | (simp [intOf]; omega)
              | trace_state
          · obtain ⟨j, rfl⟩ : ∃ j', j = j' + 1 := ⟨j - 1, by omega⟩
            obtain ⟨rb2, ro2, hB, _, cp9⟩ := HRW.out.at_ (k := j) (by rw [zinP_len]; omega)
            injection hB with hB
            injection hB with e1 e2
            subst e1 e2
            have cp := HWH.out.1.cell cp9
            have hz : (zinP (inPart F 20 p))[j]'(by rw [zinP_len]; omega) = .int .i64 (((inPart F 20 p)[j]'(by omega) : Nat) : Int) := by simp [zinP]
            rw [hz] at cp
            have hup := HUP.out j rfl
            clear cp9 hz
            generalize (inPart F 20 p)[j]'(by omega) = r' at cp hup
            have g3 : ¬ (r : Int) ≤ (r' : Int) := by omega
            have g4 : (0 : Int) < ((j + 1 : Nat) : Int) := by omega
            have g5 : IntKind.i64.wrap (((j + 1 : Nat) : Int) - 1) = (j : Int) := by rw [show ((j + 1 : Nat) : Int) - 1 = (j : Int) by omega]; exact IntWalk.i64_in _ ⟨by omega, by omega⟩
            clear hup
            go_wp2_with fail
            go_roundw
            all_goals first
              | exact ⟨j + 2, by omega, by go_num, by go_num, HST.out⟩
              | (simp [intOf]; omega)
              | trace_state
        · have hjn : j = ln := by omega
          subst hjn
          have HNX := Lib.hid (show Wh F (p + 1) 0 gw w9 wr from ⟨hwh.1, by rw [← whA_next, HLN.out]; exact hwh.2⟩)
          clear hwh
          go_wp2_with fail
          go_roundw
          all_goals first
            | exact ⟨p + 1, hpM, by go_num, by rw [HSN.out], HNX.out⟩
            | (simp [intOf]; omega)
            | trace_state
    · have hpn : p = M := by omega
      subst hpn
      have HWH := Lib.hid hwh
      have hall := seenA_all F p HFM.out
      rw [show ((seenA F p : Nat) : Int) = 20 by rw [hall]; rfl]
      clear hwh hall
      go_wp2_with fail
      go_loopw [18] (fun iv wz => ∃ i : Nat, i ≤ 20 ∧ iv = .int .i64 i ∧ Wh F p 0 gw w9 wz) (fun i _ => 20 - (intOf i).toNat)
      case atStart => exact ⟨0, Nat.zero_le _, rfl, HWH.out⟩
      case round =>
        obtain ⟨i, hi, rfl, hwz⟩ := hrel
        have HWH := Lib.hid hwz
        clear hwz
        by_cases hi20 : i < 20
        · have hii : (i : Int) < 20 := by omega
          have hwi : IntKind.i64.wrap ((i : Int) + 1) = (i : Int) + 1 := IntWalk.i64_in _ ⟨by omega, by omega⟩
          go_wp2_with fail
          go_loopw [19] (fun mv wz => ∃ u : Nat, u ≤ i ∧ mv = .int .i64 u ∧ Wh F p 0 gw w9 wz) (fun u _ => i - (intOf u).toNat)
          case atStart => exact ⟨0, Nat.zero_le _, rfl, HWH.out⟩
          case round =>
            obtain ⟨u, hu, rfl, hwz⟩ := hrel
            have HWH := Lib.hid hwz
            clear hwz
            have hwu : IntKind.i64.wrap ((u : Int) + 1) = (u : Int) + 1 := IntWalk.i64_in _ ⟨by omega, by omega⟩
            by_cases hui : u < i
            · obtain ⟨zb, zo, hZ, zk, hzh, _⟩ := (HZR9.out.later HWH.out.1).get k HKZ.out
              injection hZ with hZ
              injection hZ with e1 e2
              subst e1 e2
              have hl20 := (HZ20.out _ (List.getElem_mem HKZ.out)).1
              rw [hl20, Nat.zero_add] at zk
              obtain ⟨vb, vo, hV, x0, x1, x2⟩ := hzh.val3 i (by omega)
              obtain ⟨vb', vo', hV', y0, y1, y2⟩ := hzh.val3 u (by omega)
              rw [hV] at hV' zk
              injection hV' with hV'
              injection hV' with e1 e2
              subst e1 e2
              have HEQ := Lib.hid (show (zs[k]'HKZ.out).l[i] = (zs[k]'HKZ.out).l[u] → F i = F u from fun h => by
                rw [HFE.out i (by omega), HFE.out u (by omega), h])
              have d1 := HWH.out.cell i hi20
              have d2 := HWH.out.cell u (by omega)
              rw [whA_end F p i HFM.out] at d1
              rw [whA_end F p u HFM.out] at d2
              generalize (zs[k]'HKZ.out).c = zc at zk
              clear hzh hV
              generalize (zs[k]'HKZ.out).l[i] = x at x0 x1 x2 HEQ
              generalize (zs[k]'HKZ.out).l[u] = y at y0 y1 y2 HEQ
              generalize F i = fi at d1 HEQ
              generalize F u = fu at d2 HEQ
              obtain ⟨x0', x1', x2'⟩ := x
              obtain ⟨y0', y1', y2'⟩ := y
              dsimp only at x0 x1 x2 y0 y1 y2
              have huu : (u : Int) < 20 := by omega
              have HDN := Lib.hid (fun d => HWH.out.drewN d)
              by_cases h1 : x0' = y0'
              · subst h1
                by_cases h2 : x1' = y1'
                · subst h2
                  by_cases h3 : x2' = y2'
                  · subst h3
                    have hf : fi = fu := HEQ.out rfl
                    subst hf
                    go_wp2_with fail
                    go_quiet (fail)
                    go_wp2_with fail
                    go_roundw
                    all_goals first
                      | exact ⟨u + 1, by omega, by go_num, HDN.out _⟩
                      | (simp [intOf]; omega)
                      | trace_state
                  · have e3 := bytes_ne h3
                    go_wp2_with fail
                    go_quiet (fail)
                    go_wp2_with fail
                    go_roundw
                    all_goals first
                      | exact ⟨u + 1, by omega, by go_num, HDN.out _⟩
                      | (simp [intOf]; omega)
                      | trace_state
                · have e2 : (x1' == y1') = false := by simp [h2]
                  go_wp2_with fail
                  go_quiet (fail)
                  go_wp2_with fail
                  go_roundw
                  all_goals first
                    | exact ⟨u + 1, by omega, by go_num, HDN.out _⟩
                    | (simp [intOf]; omega)
                    | trace_state
              · have e1 : (x0' == y0') = false := by simp [h1]
                go_wp2_with fail
                go_quiet (fail)
                go_wp2_with fail
                go_roundw
                all_goals first
                  | exact ⟨u + 1, by omega, by go_num, HDN.out _⟩
                  | (simp [intOf]; omega)
                  | trace_state
            · go_wp2_with fail
              go_roundw
              all_goals first
                | exact ⟨i + 1, by omega, by go_num, HWH.out⟩
                | (simp [intOf]; omega)
                | trace_state
        · go_wp2_with fail
          go_ret
          exact ⟨rfl, HL9.out.trans HWH.out.1⟩
end Go.Proofs.Ytphiggjgapaaiaa
