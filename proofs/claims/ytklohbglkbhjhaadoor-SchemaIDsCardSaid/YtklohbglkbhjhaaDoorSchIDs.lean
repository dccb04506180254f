/- The walk of SchemaIDs. -/
import Derived.Test.YtklohbglkbhjhaaDoorIdsA
import Derived.Deep.CutBlock
namespace Go.Proofs.YtklohbglkbhjhaaDoor
open Go.RowKit
set_option linter.unusedVariables false

theorem idsStart (t0 : Int) (m : Nat) (ts : List Int) (hm : m ≤ 2) (htl : ts.length = m) (lay : Lay4) (hl : lay.enc.length = m + 2) : IdI (playCols t0 m ts, ((m + 2 : Nat) : Int), lay) (fun _ => false) 0 := by
  refine ⟨⟨by show (1 : Int) ≤ ((m + 2 : Nat) : Int); omega, by show ((m + 2 : Nat) : Int) ≤ 4 + ((0 : Nat) : Int); omega⟩, fun x hx => ?_, (fun j hj => by cases hj), ?_, fun x hx => ?_, ?_⟩
  · match m, ts, htl with
    | 0, [], _ =>
      simp only [playCols, exC, List.mem_cons, List.not_mem_nil, or_false] at hx
      rcases hx with rfl | rfl <;> refine ⟨?_, ?_, rfl⟩ <;> simp
    | 1, [a], _ =>
      simp only [playCols, exC, List.mem_cons, List.not_mem_nil, or_false] at hx
      rcases hx with rfl | rfl | rfl <;> refine ⟨?_, ?_, rfl⟩ <;> simp
    | 2, [a, b], _ =>
      simp only [playCols, exC, List.mem_cons, List.not_mem_nil, or_false] at hx
      rcases hx with rfl | rfl | rfl | rfl <;> refine ⟨?_, ?_, rfl⟩ <;> simp
  · show 1 ≤ (playCols t0 m ts).length ∧ (playCols t0 m ts).length ≤ 6
    rw [playCols_len]; omega
  · match m, ts, htl with
    | 0, [], _ =>
      simp only [playCols, exC, List.mem_cons, List.not_mem_nil, or_false] at hx
      rcases hx with rfl | rfl <;> (show _ ≤ 100000; simp [ByteArray.size])
    | 1, [a], _ =>
      simp only [playCols, exC, List.mem_cons, List.not_mem_nil, or_false] at hx
      rcases hx with rfl | rfl | rfl <;> (show _ ≤ 100000; simp [nameC, ByteArray.size])
    | 2, [a, b], _ =>
      simp only [playCols, exC, List.mem_cons, List.not_mem_nil, or_false] at hx
      rcases hx with rfl | rfl | rfl | rfl <;> (show _ ≤ 100000; simp [nameC, ByteArray.size])
  · show lay.enc.length = (playCols t0 m ts).length
    rw [playCols_len]; omega

def idC (c : Chg) : List Value := [.int .i64 c.kind, .int .i64 c.col, .string c.name, .int .i64 c.typ, .int .i64 c.val.1, .int .i64 c.val.2.1, .string c.val.2.2, .int .u8 c.sep, .int .i64 c.num]

def st9 (w : World) (g : Nat) (c : Chg) : World := ((((((((w.setCell ⟨g, 0, none⟩ (.int .i64 c.kind)).setCell ⟨g, 1, none⟩ (.int .i64 c.col)).setCell ⟨g, 2, none⟩ (.string c.name)).setCell ⟨g, 3, none⟩ (.int .i64 c.typ)).setCell ⟨g, 4, none⟩ (.int .i64 c.val.1)).setCell ⟨g, 5, none⟩ (.int .i64 c.val.2.1)).setCell ⟨g, 6, none⟩ (.string c.val.2.2)).setCell ⟨g, 7, none⟩ (.int .u8 c.sep)).setCell ⟨g, 8, none⟩ (.int .i64 c.num)
theorem st9_arr (c0 c : Chg) : ((((((((((idC c0).toArray.setIfInBounds 0 (.int .i64 c.kind)).setIfInBounds 1 (.int .i64 c.col)).setIfInBounds 2 (.string c.name)).setIfInBounds 3 (.int .i64 c.typ)).setIfInBounds 4 (.int .i64 c.val.1)).setIfInBounds 5 (.int .i64 c.val.2.1)).setIfInBounds 6 (.string c.val.2.2)).setIfInBounds 7 (.int .u8 c.sep)).setIfInBounds 8 (.int .i64 c.num)) = (idC c).toArray := by
  simp [idC]
theorem st9_blk {w : World} {g : Nat} {t : TypeId} {c0 : Chg} (h : Blk w g (idC c0).toArray t) (c : Chg) : Blk (st9 w g c) g (idC c).toArray t := by
  have h9 := ((((((((h.set_ 0 (.int .i64 c.kind)).set_ 1 (.int .i64 c.col)).set_ 2 (.string c.name)).set_ 3 (.int .i64 c.typ)).set_ 4 (.int .i64 c.val.1)).set_ 5 (.int .i64 c.val.2.1)).set_ 6 (.string c.val.2.2)).set_ 7 (.int .u8 c.sep)).set_ 8 (.int .i64 c.num)
  rw [st9_arr] at h9
  exact h9
theorem lset {w0 w : World} (g k : Nat) (v : Value) (hg : w0.heap.size ≤ g) (l : Later w0 w) : Later w0 (w.setCell ⟨g, k, none⟩ v) := Later.set_ l hg v
theorem st9_later {w0 w : World} {g : Nat} (l : Later w0 w) (hg : w0.heap.size ≤ g) (c : Chg) : Later w0 (st9 w g c) := by
  unfold st9
  refine lset _ _ _ hg ?_
  refine lset _ _ _ hg ?_
  refine lset _ _ _ hg ?_
  refine lset _ _ _ hg ?_
  refine lset _ _ _ hg ?_
  refine lset _ _ _ hg ?_
  refine lset _ _ _ hg ?_
  refine lset _ _ _ hg ?_
  exact lset _ _ _ hg l
theorem szN (x : UInt8) (a b : Nat) : ((⟨#[x]⟩ : ByteArray) ++ bstr [a, b]).size ≤ 100000 := by
  rw [ByteArray.size_append]
  show 1 + 2 ≤ 100000
  decide

theorem own_fill {B : Nat} {e : TypeId} {size n c g : Nat} {xs : List Value} {w : World} (h : w.ownsRow B e size (.slice (some ⟨g, 0, none⟩) n c) n xs) {q : Nat} {cs : Array Value} {t : TypeId} (hb : Blk w q cs t) (ht : e ≠ t) (vs : List Value) : (w.setCells q 0 vs).ownsRow B e size (.slice (some ⟨g, 0, none⟩) n c) n xs := by
  obtain ⟨cu, hcu⟩ := own_typ h
  exact own_apart h (setCells_only _ _) (fun p hp e => by injection hp with hp; injection e with e; exact ne_typ hcu hb ht (hp.trans e))
section
variable {B gs gl gg : Nat} {s s' : St3} {G : Nat → Bool} {gv vc ge ec gv' c4 ge' ec4 : Nat} {wr : World}
abbrev sA (s' : St3) (gv' c4 : Nat) : List Value := [.slice (some ⟨gv', 0, none⟩) s'.1.length c4, .int .i64 s'.2.1]
abbrev sB (s' : St3) (ge' ec4 : Nat) : List Value := [.int .i64 s'.2.2.sb, .int .i64 s'.2.2.pb, .int .i64 s'.2.2.parts, .slice (some ⟨ge', 0, none⟩) s'.2.2.enc.length ec4]
theorem IdA.next1 (h : IdA B gs gl gg s G gv vc ge ec wr) (ov : wr.ownsRow B 59 3 (.slice (some ⟨gv', 0, none⟩) s'.1.length c4) s'.1.length (fc s'.1)) (oe : wr.ownsRow B 3 1 (.slice (some ⟨ge', 0, none⟩) s'.2.2.enc.length ec4) s'.2.2.enc.length (ein s'.2.2.enc)) :
    IdA B gs gl gg s' G gv' c4 ge' ec4 ((wr.setCells gs 0 (sA s' gv' c4)).setCells gl 0 (sB s' ge' ec4)) := by
  have n1 : gs ≠ gl := ne_typ h.bs h.bl (by decide)
  have n2 : gg ≠ gs := ne_typ h.bg h.bs (by decide)
  have n3 : gg ≠ gl := ne_typ h.bg h.bl (by decide)
  have b1 := Blk.fill [_, _] (sA s' gv' c4) h.bs rfl
  have b2 := h.bl.aside n1.symm 0 (sA s' gv' c4)
  have b3 := h.bg.aside n2 0 (sA s' gv' c4)
  have o1 := own_fill ov h.bs (by decide) (sA s' gv' c4)
  have o2 := own_fill oe h.bs (by decide) (sA s' gv' c4)
  exact ⟨b1.aside n1 0 _, Blk.fill [_, _, _, _] (sB s' ge' ec4) b2 rfl, b3.aside n3 0 _, own_fill o1 b2 (by decide) _, own_fill o2 b2 (by decide) _, h.hb⟩
theorem IdA.next2 (h : IdA B gs gl gg s G gv vc ge ec wr) (ov : wr.ownsRow B 59 3 (.slice (some ⟨gv', 0, none⟩) s'.1.length c4) s'.1.length (fc s'.1)) (oe : wr.ownsRow B 3 1 (.slice (some ⟨ge', 0, none⟩) s'.2.2.enc.length ec4) s'.2.2.enc.length (ein s'.2.2.enc)) :
    IdA B gs gl gg s' G gv' c4 ge' ec4 ((wr.setCells gl 0 (sB s' ge' ec4)).setCells gs 0 (sA s' gv' c4)) := by
  have n1 : gs ≠ gl := ne_typ h.bs h.bl (by decide)
  have n2 : gg ≠ gs := ne_typ h.bg h.bs (by decide)
  have n3 : gg ≠ gl := ne_typ h.bg h.bl (by decide)
  have b1 := Blk.fill [_, _, _, _] (sB s' ge' ec4) h.bl rfl
  have b2 := h.bs.aside n1 0 (sB s' ge' ec4)
  have b3 := h.bg.aside n3 0 (sB s' ge' ec4)
  have o1 := own_fill ov h.bl (by decide) (sB s' ge' ec4)
  have o2 := own_fill oe h.bl (by decide) (sB s' ge' ec4)
  exact ⟨Blk.fill [_, _] (sA s' gv' c4) b2 rfl, b1.aside n1.symm 0 _, b3.aside n2 0 _, own_fill o1 b2 (by decide) _, own_fill o2 b2 (by decide) _, h.hb⟩
end

set_option maxRecDepth 100000 in
set_option maxHeartbeats 8000000 in
theorem schemaIDs_walk (A A2 : Option Addr) (n c n2 c2 : Nat) (bs ms : List Nat) (w : World) (f : Int → Addr) (hs : S15 w f) (h3 : S3 w) (hb : bs.length = n) (hn : n ≤ 60) (hr : Has w A (ints .u8 bs)) (h256 : ∀ x ∈ bs, x < 256) (hb2 : ms.length = n2) (hn2 : n2 ≤ 60) (hr2 : Has w A2 (ints .u8 ms)) (hm256 : ∀ x ∈ ms, x < 256) :
    Calls Tryd.prog 7 #[.slice A n c, .slice A2 n2 c2] w fun e w' => e = .returned (.bool true) ∧ Later w w' := by
  have HB := Lib.hid (begun15_any w f hs h3)
  have HS := Lib.hid hs
  have H3 := Lib.hid h3
  have HR := Lib.hid hr
  have HR2 := Lib.hid hr2
  have HMS := Lib.hid hm256
  have HML := Lib.hid hb2
  have hc : PkC n bs := ⟨by omega, hb, h256⟩
  have HCC := Lib.hid hc
  clear hr h256 hb hs h3 hc hr2 hm256 hb2
  go_enter Tryd.func7, Tryd.ntmps7
  go_wp2_with fail
  refine HB.out.mono ?_
  rintro e w1 ⟨rfl, l1⟩
  have HL1 := Lib.hid l1
  have HR1 := Lib.hid (HR.out.later l1)
  obtain ⟨g, hg⟩ : ∃ g, w1.heap.size = g := ⟨_, rfl⟩
  clear l1 HB HR
  have hn60 : ((60 : Int) < (n : Int)) = False := by simp; omega
  have hn61 : ((60 : Int) < (n2 : Int)) = False := by simp; omega
  go_wp2_with (go_at_call 11; refine (made_any A n c _).mono ?_; rintro e w2 ⟨rfl, hw2⟩)
  have l2 : Later w1 w2 := hw2 ▸ Later.new _ _
  have HPK2 := Lib.hid (show Pks w2 g A n c bs from ⟨⟨0, Nat.zero_le _, hw2 ▸ Blk.new _ _ _ g hg.symm⟩, by
    have h := HR1.out
    rcases h with h | ⟨b, off, hA, hb, hcc⟩
    · exact .inl h
    · exact .inr ⟨b, off, hA, by omega, fun k v hv => l2.cell (hcc k v hv)⟩⟩)
  have HL2 := Lib.hid l2
  have HG0 := Lib.hid hg
  clear l2 hw2 HR1 hg hn60 hn61
  refine (schema_any g A n c bs w2 HCC.out HPK2.out).mono ?_
  rintro e w3 ⟨t0, m, ts, V, vc, es, E, ec, d0, d1, d2, rfl, ⟨hm, htl, ht0, hts⟩, ⟨hes, het, hlay⟩, rs⟩
  have HL3 := Lib.hid (show Later w w3 from HL1.out.trans (rs.far.out HG0.out.symm HL2.out))
  obtain ⟨gv, rfl⟩ := own_some rs.oV (by omega)
  obtain ⟨ge, rfl⟩ := own_some rs.oE (by omega)
  have hcl : (playCols t0 m ts).length = m + 2 := by rw [playCols_len, htl]
  have HI0 := Lib.hid (idsStart t0 m ts hm htl ⟨d0, d1, d2, es⟩ hes)
  have OV3 := Lib.hid (show w3.ownsRow w.heap.size 59 3 (.slice (some ⟨gv, 0, none⟩) (m + 2) vc) (m + 2) (fc (playCols t0 m ts)) from own_weak rs.oV (Nat.le_trans HL1.out.size HL2.out.size))
  have OE3 := Lib.hid (show w3.ownsRow w.heap.size 3 1 (.slice (some ⟨ge, 0, none⟩) (m + 2) ec) (m + 2) (ein es) from own_weak rs.oE (Nat.le_trans HL1.out.size HL2.out.size))
  clear rs HPK2 HCC HL2 HG0 hts het hlay ht0 htl
  generalize playCols t0 m ts = cols at hcl HI0 OV3
  obtain ⟨vn, hvn⟩ : ∃ x, m + 2 = x := ⟨_, rfl⟩
  rw [hvn] at hcl hes HI0 OV3 OE3 ⊢
  have hvb : 2 ≤ vn ∧ vn ≤ 4 := by omega
  clear hvn hm
  obtain ⟨gs, hgs⟩ : ∃ x, w3.heap.size = x := ⟨_, rfl⟩
  have hz : Tryd.zeroCells64 = (gbs fun _ => false).toArray := by rfl
  obtain ⟨w4, hw4⟩ : ∃ x : World, ((w3.alloc (.cells #[.slice (some ⟨gv, 0, none⟩) vn vc, .int .i64 (vn : Int)] 24)).alloc (.cells #[.int .i64 d0, .int .i64 d1, .int .i64 d2, .slice (some ⟨ge, 0, none⟩) vn ec] 27)).alloc (.cells (gbs fun _ => false).toArray 64) = x := ⟨_, rfl⟩
  have l4 : Later w3 w4 := hw4 ▸ ((Later.new _ _).alloc _).alloc _
  have HA0 := Lib.hid (show IdA w.heap.size gs (gs + 1) (gs + 2) (cols, (vn : Int), ⟨d0, d1, d2, es⟩) (fun _ => false) gv vc ge ec w4 from by
    refine ⟨?_, ?_, ?_, ?_, ?_, ?_⟩
    · show Blk w4 gs #[.slice (some ⟨gv, 0, none⟩) cols.length vc, .int .i64 (vn : Int)] 24
      rw [hcl]
      exact hw4 ▸ ((Blk.new w3 _ _ gs hgs.symm).later (Later.new _ _)).later (Later.new _ _)
    · show Blk w4 (gs + 1) #[.int .i64 d0, .int .i64 d1, .int .i64 d2, .slice (some ⟨ge, 0, none⟩) es.length ec] 27
      rw [hes]
      exact hw4 ▸ (Blk.new _ _ _ _ (by simp; omega)).later (Later.new _ _)
    · exact hw4 ▸ Blk.new _ _ _ _ (by simp; omega)
    · show w4.ownsRow w.heap.size 59 3 (.slice (some ⟨gv, 0, none⟩) cols.length vc) cols.length (fc cols)
      rw [hcl]; exact own_later OV3.out l4
    · show w4.ownsRow w.heap.size 3 1 (.slice (some ⟨ge, 0, none⟩) es.length ec) es.length (ein es)
      rw [hes]; exact own_later OE3.out l4
    · have := HL3.out.size; omega)
  have HLW4 := Lib.hid (HL3.out.trans l4)
  have HR4 := Lib.hid (show IdR w n2 gs (gs + 1) (gs + 2) (.int .i64 0) w4 from IdR.mk 0 0 _ _ _ _ _ _ rfl (Nat.zero_le _) (Nat.zero_le _) HI0.out HA0.out HLW4.out)
  have HW4 := Lib.hid hw4
  clear hw4 l4 OV3 OE3 HL3 HA0 HI0 HLW4
  go_upto_region 7 with fail
  simp only [Nat.add_assoc, Nat.reduceAdd]
  rw [HW4.out]
  clear HW4 hgs hcl hes hz
  go_wp2_with fail
  go_loopw [8] (fun iv wr => IdR w n2 gs (gs + 1) (gs + 2) iv wr) (fun i _ => 30 - (intOf i).toNat)
  case atStart => exact HR4.out
  case round =>
    obtain ⟨i, s, G, gv, vc, ge, ec, rfl, hin, hi30, hII, hIA, lat⟩ := hrel
    have HII := Lib.hid hII
    have HIA := Lib.hid hIA
    have HLT := Lib.hid lat
    clear hII hIA lat HR4
    by_cases hlt : i < n2
    rotate_left
    · have hi2 : ¬ (i : Int) < (n2 : Int) := by omega
      go_wp2_with fail
      go_ret
      exact ⟨rfl, HLT.out⟩
    by_cases h30 : i < 30
    rotate_left
    · have hi2 : (i : Int) < (n2 : Int) := by omega
      have hi3 : ¬ (i : Int) < 30 := by omega
      go_wp2_with fail
      go_ret
      exact ⟨rfl, HLT.out⟩
    have hi2 : (i : Int) < (n2 : Int) := by omega
    have hi3 : (i : Int) < 30 := by omega
    have hil : i < ms.length := by rw [HML.out]; exact hlt
    have hm0 : ms[i] < 256 := HMS.out _ (List.getElem_mem _)
    obtain ⟨b9, o9, e9, c9⟩ : ∃ b off, A2 = some ⟨b, off, none⟩ ∧ wr.cell? ⟨b, off + i, none⟩ = some (.int .u8 ((ms[i] : Nat) : Int)) := by
      rcases HR2.out.later HLT.out with h | ⟨b, off, hA, hb, hcc⟩
      · exact absurd (congrArg List.length h) (by simp [ints]; intro h0; rw [h0] at hil; simp at hil)
      · exact ⟨b, off, hA, hcc i _ (ints_get _ _ _ hil)⟩
    subst e9
    generalize ms[i] = mo at hm0 c9
    have s0 := HIA.out.bs.cell 0 _ rfl
    obtain ⟨vn, hvn⟩ : ∃ x, s.1.length = x := ⟨_, rfl⟩
    have hv1 : 1 ≤ vn ∧ vn ≤ 6 := hvn ▸ HII.out.len
    obtain ⟨kx, hkx⟩ : ∃ x, (mo / 4) % vn = x := ⟨_, rfl⟩
    have hkl : kx < vn := hkx ▸ Nat.mod_lt _ (by omega)
    obtain ⟨bq, oq, eq, q0, _, _⟩ := (Has.ownG HIA.out.ov).col3 kx (by omega)
    injection eq with eq
    injection eq with x1 x2
    subst x1 x2
    obtain ⟨idv, hidv⟩ : ∃ x, (s.1[kx]'(by omega)).1 = x := ⟨_, rfl⟩
    rw [hidv, Nat.zero_add] at q0
    rw [hvn] at s0
    have hidx : ((mo : Int) / 4) % (vn : Int) = (kx : Int) := by rw [← hkx]; simp
    go_wp2_with fail
    go_quiet (fail)
    obtain ⟨wd, hwd⟩ : ∃ x, wr.drewN nq = x := ⟨_, rfl⟩
    rw [hwd]
    have ld : Later wr wd := hwd ▸ (Later.refl wr).drewN _
    obtain ⟨g10, hg10⟩ : ∃ x, wd.heap.size = x := ⟨_, rfl⟩
    obtain ⟨w10, hw10⟩ : ∃ x : World, wd.alloc (.cells #[.int .i64 2, .int .i64 idv, .string ⟨#[]⟩, .int .i64 0, .int .i64 0, .int .i64 0, .string ⟨#[]⟩, .int .u8 0, .int .i64 0] 31) = x := ⟨_, rfl⟩
    have l10 : Later wr w10 := hw10 ▸ ld.alloc _
    have HB10 := Lib.hid (show Blk w10 g10 (idC ⟨2, idv, ⟨#[]⟩, 0, (0, 0, ⟨#[]⟩), 0, 0⟩).toArray 31 from hw10 ▸ Blk.new _ _ _ _ hg10.symm)
    have HL10 := Lib.hid l10
    have HG10 := Lib.hid (show wr.heap.size ≤ g10 from hg10 ▸ ld.size)
    have x9 := l10.cell c9
    have HW10 := Lib.hid hw10
    clear l10 hw10 ld hwd q0 s0 c9 hidx
    go_upto_region 12 with fail
    rw [HW10.out]
    clear HW10 hg10
    go_cut [62] from 58 to 62 (fun kv wx => kv = .int .u8 ((mo : Int) % 4) ∧ wx = w10)
    case first =>
      go_wp2_with fail
      go_meet
      exact ⟨rfl, rfl⟩
    case rest =>
    obtain ⟨rfl, rfl⟩ := hcut
    clear x9
    go_upto_block 2 with fail
    go_cut [10] from 63 to 91 (fun pv wx => pv = .pointer (some ⟨g10, 0, none⟩) ∧ ∃ ch : Chg, Blk wx g10 (idC ch).toArray 31 ∧ Later wr wx ∧ ch.name.size ≤ 100000 ∧ ((ch.kind = 2 ∧ ch.col = idv) ∨ ch.kind = 1 ∨ ch.kind = 5))
    case first =>
      by_cases h0 : mo % 4 = 0
      · have z0 : ((mo : Int) % 4 == 0) = true := by simp; omega
        have hi30i : (i : Int) < 30 := by omega
        obtain ⟨p1, hp1⟩ : ∃ x, 97 + i % 26 = x := ⟨_, rfl⟩
        obtain ⟨p2, hp2⟩ : ∃ x, 97 + i / 26 = x := ⟨_, rfl⟩
        obtain ⟨gl, hgl⟩ : ∃ x, wc.heap.size = x := ⟨_, rfl⟩
        obtain ⟨wl, hwl⟩ : ∃ x : World, wc.alloc (.cells #[.int .u8 (p1 : Int), .int .u8 (p2 : Int)] 5) = x := ⟨_, rfl⟩
        have hlit : Has wl (some ⟨gl, 0, none⟩) (ints .u8 [p1, p2]) := hwl ▸ hgl ▸ (Has.lit wc 5 .u8 [p1, p2])
        have hconv := conv_str (some ⟨gl, 0, none⟩) 2 2 [p1, p2] rfl wl _ hlit
        have ll : Later wc wl := hwl ▸ Later.new _ _
        have HBL := Lib.hid (HB10.out.later ll)
        have HLL := Lib.hid (HL10.out.trans ll)
        have HNM := Lib.hid (show ((⟨#[120]⟩ : ByteArray) ++ bstr [p1, p2]).size ≤ 100000 from szN _ _ _)
        have y0 : wl.cell? ⟨g10, 0, none⟩ = some (.int .i64 2) := HBL.out.cell 0 _ rfl
        have y1 : wl.cell? ⟨g10, 1, none⟩ = some (.int .i64 idv) := HBL.out.cell 1 _ rfl
        have y2 : wl.cell? ⟨g10, 2, none⟩ = some (.string ⟨#[]⟩) := HBL.out.cell 2 _ rfl
        have y3 : wl.cell? ⟨g10, 3, none⟩ = some (.int .i64 0) := HBL.out.cell 3 _ rfl
        have y4 : wl.cell? ⟨g10, 4, none⟩ = some (.int .i64 0) := HBL.out.cell 4 _ rfl
        have y5 : wl.cell? ⟨g10, 5, none⟩ = some (.int .i64 0) := HBL.out.cell 5 _ rfl
        have y6 : wl.cell? ⟨g10, 6, none⟩ = some (.string ⟨#[]⟩) := HBL.out.cell 6 _ rfl
        have y7 : wl.cell? ⟨g10, 7, none⟩ = some (.int .u8 0) := HBL.out.cell 7 _ rfl
        have y8 : wl.cell? ⟨g10, 8, none⟩ = some (.int .i64 0) := HBL.out.cell 8 _ rfl
        have f0 := HBL.out.frozen 0
        have f1 := HBL.out.frozen 1
        have f2 := HBL.out.frozen 2
        have f3 := HBL.out.frozen 3
        have f4 := HBL.out.frozen 4
        have f5 := HBL.out.frozen 5
        have f6 := HBL.out.frozen 6
        have f7 := HBL.out.frozen 7
        have f8 := HBL.out.frozen 8
        have hy1 : (97 + (i : Int) % 26) = (p1 : Int) := by omega
        have hy2 : (97 + (i : Int) / 26) = (p2 : Int) := by omega
        have hy3 : (97 + (i : Int) % 26) % 256 = (p1 : Int) := by omega
        have hy4 : (97 + (i : Int) / 26) % 256 = (p2 : Int) := by omega
        have hy5 : (p1 : Int) % 256 = (p1 : Int) := by omega
        have hy6 : (p2 : Int) % 256 = (p2 : Int) := by omega
        clear hlit ll
        go_wp2_with fail
        go_meet
        have e1 := st9_blk HBL.out ⟨1, 0, (⟨#[120]⟩ : ByteArray) ++ bstr [p1, p2], 4, (0, 0, ⟨#[]⟩), 0, 0⟩
        have e2 := st9_later HLL.out HG10.out ⟨1, 0, (⟨#[120]⟩ : ByteArray) ++ bstr [p1, p2], 4, (0, 0, ⟨#[]⟩), 0, 0⟩
        unfold st9 at e1 e2
        dsimp only at e1 e2
        exact ⟨rfl, ⟨1, 0, (⟨#[120]⟩ : ByteArray) ++ bstr [p1, p2], 4, (0, 0, ⟨#[]⟩), 0, 0⟩, e1, e2, HNM.out, .inr (.inl rfl)⟩
      by_cases h1 : mo % 4 = 1
      · have z0 : ((mo : Int) % 4 == 0) = false := by simp; omega
        have z1 : ((mo : Int) % 4 == 1) = true := by simp; omega
        have hi30i : (i : Int) < 30 := by omega
        obtain ⟨p1, hp1⟩ : ∃ x, 97 + i % 26 = x := ⟨_, rfl⟩
        obtain ⟨p2, hp2⟩ : ∃ x, 97 + i / 26 = x := ⟨_, rfl⟩
        obtain ⟨gl, hgl⟩ : ∃ x, wc.heap.size = x := ⟨_, rfl⟩
        obtain ⟨wl, hwl⟩ : ∃ x : World, wc.alloc (.cells #[.int .u8 (p1 : Int), .int .u8 (p2 : Int)] 5) = x := ⟨_, rfl⟩
        have hlit : Has wl (some ⟨gl, 0, none⟩) (ints .u8 [p1, p2]) := hwl ▸ hgl ▸ (Has.lit wc 5 .u8 [p1, p2])
        have hconv := conv_str (some ⟨gl, 0, none⟩) 2 2 [p1, p2] rfl wl _ hlit
        have ll : Later wc wl := hwl ▸ Later.new _ _
        have HBL := Lib.hid (HB10.out.later ll)
        have HLL := Lib.hid (HL10.out.trans ll)
        have HNM := Lib.hid (show ((⟨#[121]⟩ : ByteArray) ++ bstr [p1, p2]).size ≤ 100000 from szN _ _ _)
        have y0 : wl.cell? ⟨g10, 0, none⟩ = some (.int .i64 2) := HBL.out.cell 0 _ rfl
        have y1 : wl.cell? ⟨g10, 1, none⟩ = some (.int .i64 idv) := HBL.out.cell 1 _ rfl
        have y2 : wl.cell? ⟨g10, 2, none⟩ = some (.string ⟨#[]⟩) := HBL.out.cell 2 _ rfl
        have y3 : wl.cell? ⟨g10, 3, none⟩ = some (.int .i64 0) := HBL.out.cell 3 _ rfl
        have y4 : wl.cell? ⟨g10, 4, none⟩ = some (.int .i64 0) := HBL.out.cell 4 _ rfl
        have y5 : wl.cell? ⟨g10, 5, none⟩ = some (.int .i64 0) := HBL.out.cell 5 _ rfl
        have y6 : wl.cell? ⟨g10, 6, none⟩ = some (.string ⟨#[]⟩) := HBL.out.cell 6 _ rfl
        have y7 : wl.cell? ⟨g10, 7, none⟩ = some (.int .u8 0) := HBL.out.cell 7 _ rfl
        have y8 : wl.cell? ⟨g10, 8, none⟩ = some (.int .i64 0) := HBL.out.cell 8 _ rfl
        have f0 := HBL.out.frozen 0
        have f1 := HBL.out.frozen 1
        have f2 := HBL.out.frozen 2
        have f3 := HBL.out.frozen 3
        have f4 := HBL.out.frozen 4
        have f5 := HBL.out.frozen 5
        have f6 := HBL.out.frozen 6
        have f7 := HBL.out.frozen 7
        have f8 := HBL.out.frozen 8
        have hy1 : (97 + (i : Int) % 26) = (p1 : Int) := by omega
        have hy2 : (97 + (i : Int) / 26) = (p2 : Int) := by omega
        have hy3 : (97 + (i : Int) % 26) % 256 = (p1 : Int) := by omega
        have hy4 : (97 + (i : Int) / 26) % 256 = (p2 : Int) := by omega
        have hy5 : (p1 : Int) % 256 = (p1 : Int) := by omega
        have hy6 : (p2 : Int) % 256 = (p2 : Int) := by omega
        clear hlit ll
        go_wp2_with fail
        go_meet
        have e1 := st9_blk HBL.out ⟨5, idv, (⟨#[121]⟩ : ByteArray) ++ bstr [p1, p2], 0, (0, 0, ⟨#[]⟩), 58, 0⟩
        have e2 := st9_later HLL.out HG10.out ⟨5, idv, (⟨#[121]⟩ : ByteArray) ++ bstr [p1, p2], 0, (0, 0, ⟨#[]⟩), 58, 0⟩
        unfold st9 at e1 e2
        dsimp only at e1 e2
        exact ⟨rfl, ⟨5, idv, (⟨#[121]⟩ : ByteArray) ++ bstr [p1, p2], 0, (0, 0, ⟨#[]⟩), 58, 0⟩, e1, e2, HNM.out, .inr (.inr rfl)⟩
      · have z0 : ((mo : Int) % 4 == 0) = false := by simp; omega
        have z1 : ((mo : Int) % 4 == 1) = false := by simp; omega
        go_wp2_with fail
        go_meet
        exact ⟨rfl, ⟨2, idv, ⟨#[]⟩, 0, (0, 0, ⟨#[]⟩), 0, 0⟩, HB10.out, HL10.out, (show (0 : Nat) ≤ 100000 from by omega), .inl ⟨rfl, rfl⟩⟩
    case rest =>
    obtain ⟨rfl, ch, hb, lx, hcn, hck⟩ := hcut
    subst hvn
    have HCK := Lib.hid hck
    have HCB := Lib.hid hb
    have HAX := Lib.hid (HIA.out.later lx)
    have HRX := Lib.hid (HLT.out.trans lx)
    have s0 : wc.cell? ⟨gs, 0, none⟩ = some (.slice (some ⟨gv, 0, none⟩) s.1.length vc) := HAX.out.bs.cell 0 _ rfl
    have s1 : wc.cell? ⟨gs, 1, none⟩ = some (.int .i64 s.2.1) := HAX.out.bs.cell 1 _ rfl
    have r0 : wc.cell? ⟨gs + 1, 0, none⟩ = some (.int .i64 s.2.2.sb) := HAX.out.bl.cell 0 _ rfl
    have r1 : wc.cell? ⟨gs + 1, 1, none⟩ = some (.int .i64 s.2.2.pb) := HAX.out.bl.cell 1 _ rfl
    have r2 : wc.cell? ⟨gs + 1, 2, none⟩ = some (.int .i64 s.2.2.parts) := HAX.out.bl.cell 2 _ rfl
    have r3 : wc.cell? ⟨gs + 1, 3, none⟩ = some (.slice (some ⟨ge, 0, none⟩) s.2.2.enc.length ec) := HAX.out.bl.cell 3 _ rfl
    have q0 : wc.cell? ⟨g10, 0, none⟩ = some (.int .i64 ch.kind) := hb.cell 0 _ rfl
    have q1 : wc.cell? ⟨g10, 1, none⟩ = some (.int .i64 ch.col) := hb.cell 1 _ rfl
    have q2 : wc.cell? ⟨g10, 2, none⟩ = some (.string ch.name) := hb.cell 2 _ rfl
    have q3 : wc.cell? ⟨g10, 3, none⟩ = some (.int .i64 ch.typ) := hb.cell 3 _ rfl
    have q4 : wc.cell? ⟨g10, 4, none⟩ = some (.int .i64 ch.val.1) := hb.cell 4 _ rfl
    have q5 : wc.cell? ⟨g10, 5, none⟩ = some (.int .i64 ch.val.2.1) := hb.cell 5 _ rfl
    have q6 : wc.cell? ⟨g10, 6, none⟩ = some (.string ch.val.2.2) := hb.cell 6 _ rfl
    have q7 : wc.cell? ⟨g10, 7, none⟩ = some (.int .u8 ch.sep) := hb.cell 7 _ rfl
    have q8 : wc.cell? ⟨g10, 8, none⟩ = some (.int .i64 ch.num) := hb.cell 8 _ rfl
    have hel := HII.out.enc
    have hlen := HII.out.len
    have HAP := Lib.hid (show Calls Tryd.prog 14 #[.agg #[.slice (some ⟨gv, 0, none⟩) s.1.length vc, .int .i64 s.2.1], .agg #[.int .i64 s.2.2.sb, .int .i64 s.2.2.pb, .int .i64 s.2.2.parts, .slice (some ⟨ge, 0, none⟩) s.2.2.enc.length ec], .agg #[.int .i64 ch.kind, .int .i64 ch.col, .string ch.name, .int .i64 ch.typ, .int .i64 ch.val.1, .int .i64 ch.val.2.1, .string ch.val.2.2, .int .u8 ch.sep, .int .i64 ch.num]] wc (ApP s ch wc) from schApply_any (some ⟨gv, 0, none⟩) (some ⟨ge, 0, none⟩) vc ec s ch wc f (HS.out.later HRX.out) (H3.out.later HRX.out) (Has.ownG HAX.out.ov) (Has.ownG HAX.out.oe) (by omega) (by omega) HII.out.nm hcn (fun h => by cases h) (fun h => by cases h))
    clear hb lx hck HB10 HL10 HG10 HLT HIA hel hlen
    go_upto_region 17 with fail
    go_cut [11, 12, 13] from 92 to 99 (fun pv qv ev wx => ResP s ch wc pv qv ev wx)
    case first =>
      go_wp2_with (go_at_call 14; refine HAP.out.mono ?_; rintro e w11 hap; obtain ⟨A4, n4, c4, last4, sb4, pb4, parts4, E4, en4, ec4, ev4, rfl, hv4, l4⟩ := hap.v (Nat.le_refl _))
      go_meet
      obtain ⟨g11, hg11⟩ : ∃ x, w11.heap.size = x := ⟨_, rfl⟩
      refine ⟨g11, g11 + 1, A4, n4, c4, last4, sb4, pb4, parts4, E4, en4, ec4, ev4, ?_, ?_, rfl, hv4.later ((Later.new _ _).alloc _), (Blk.new _ _ _ _ hg11.symm).later (Later.new _ _), Blk.new _ _ _ _ (by simp; omega), by omega, by have := l4.size; omega, by have := l4.size; omega, l4.trans ((Later.new _ _).alloc _)⟩
      · rw [hg11]
      · rw [hg11]
    case rest =>
    obtain ⟨g11, g12, A4, n4, c4, last4, sb4, pb4, parts4, E4, en4, ec4, ev4, rfl, rfl, rfl, hv4, hb11, hb12, hne, hg11, hg12, l4⟩ := hcut
    clear HAP s0 s1 r0 r1 r2 r3 q1 q2 q3 q4 q5 q6 q7 q8
    rcases hv4 with ⟨k, hk, hkm, rfl, _⟩ | ⟨s', gv', ge', hs', rfl, rfl, hn4, hla4, hsb4, hpb4, hpa4, rfl, hen4, o41, o42, _, hen5, hns, _⟩
    · have hk0 : (ev4 == 0) = false := by
        simp only [List.mem_cons, List.not_mem_nil, or_false] at hkm
        simp; omega
      have hk1 : ¬ ev4 = 0 := by simpa using hk0
      have HL4 := Lib.hid l4
      clear l4 hb11 hb12 hk hkm q0
      go_wp2_with fail
      go_roundw
      case rel => exact IdR.mk _ (i + 1) s G gv vc ge ec (by go_num) (by omega) (by omega) HII.out.next (HAX.out.later HL4.out) (HRX.out.trans HL4.out)
      case measure => simp [intOf]; omega
    clear hen5
    subst hn4 hla4 hsb4 hpb4 hpa4 hen4
    have HA4 := Lib.hid (HAX.out.later l4)
    have HL4 := Lib.hid (HRX.out.trans l4)
    have HB11 := Lib.hid hb11
    have HB12 := Lib.hid hb12
    have hwB := HRX.out.size
    have O41 := Lib.hid (own_weak o41 hwB)
    have O42 := Lib.hid (own_weak o42 hwB)
    have k0 := l4.cell q0
    have hgn1 : g11 ≠ gs := by have := HAX.out.bs.lt; omega
    have hgn2 : g12 ≠ gs + 1 := by have := HAX.out.bl.lt; omega
    clear q0 l4 hb11 hb12 o41 o42 HAX HRX hwB
    go_upto_if 104 with fail
    go_cut [10] from 105 to 106 (fun pv wx => pv = .pointer (some ⟨g10, 0, none⟩) ∧ ∃ G', IdI s' G' (i + 1) ∧ IdA w.heap.size gs (gs + 1) (gs + 2) s G' gv vc ge ec wx ∧ Blk wx g11 #[.slice (some ⟨gv', 0, none⟩) s'.1.length c4, .int .i64 s'.2.1] 24 ∧ Blk wx g12 #[.int .i64 s'.2.2.sb, .int .i64 s'.2.2.pb, .int .i64 s'.2.2.parts, .slice (some ⟨ge', 0, none⟩) s'.2.2.enc.length ec4] 27 ∧ wx.ownsRow w.heap.size 59 3 (.slice (some ⟨gv', 0, none⟩) s'.1.length c4) s'.1.length (fc s'.1) ∧ wx.ownsRow w.heap.size 3 1 (.slice (some ⟨ge', 0, none⟩) s'.2.2.enc.length ec4) s'.2.2.enc.length (ein s'.2.2.enc) ∧ Later w wx)
    case first =>
      rcases HCK.out with ⟨hk2, hcol⟩ | hk2 | hk2
      · obtain ⟨hI, h1, h2⟩ := HII.out.stepDrop hk2 hs'
        obtain ⟨dn, rfl⟩ := Int.eq_ofNat_of_zero_le (show 0 ≤ idv by omega)
        have hlast := HII.out.last
        rw [hcol, Int.toNat_natCast] at hI
        have hd100 : dn < 100 := by omega
        have hd1 : (dn : Int) < 100 := by omega
        have hkk : (ch.kind == 2) = true := by simp [hk2]
        have c0 : wc.cell? ⟨gs + 2, dn, none⟩ = some (.bool (G dn)) := HA4.out.bg.cell dn _ (by rw [List.getElem?_toArray]; exact gbs_get _ _ hd100)
        have f0 := HA4.out.bg.frozen dn
        have HI4 := Lib.hid hI
        have n1 : g11 ≠ gs + 2 := ne_typ HB11.out HA4.out.bg (by decide)
        have n2 : g12 ≠ gs + 2 := ne_typ HB12.out HA4.out.bg (by decide)
        clear hI h1 h2 hlast hcol
        go_wp2_with fail
        go_meet
        exact ⟨rfl, _, HI4.out, HA4.out.gone dn, HB11.out.far (by exact n1) _, HB12.out.far (by exact n2) _, own_put O41.out HA4.out.bg (by decide) _ _, own_put O42.out HA4.out.bg (by decide) _ _, Later.set_ HL4.out (by have := HA4.out.hb; exact this.2.2) _⟩
      · have hkk : (ch.kind == 2) = false := by simp [hk2]
        go_wp2_with fail
        go_meet
        exact ⟨rfl, _, HII.out.stepAdd hk2 hs', HA4.out, HB11.out, HB12.out, O41.out, O42.out, HL4.out⟩
      · have hkk : (ch.kind == 2) = false := by simp [hk2]
        go_wp2_with fail
        go_meet
        exact ⟨rfl, _, HII.out.stepSplit hk2 hs', HA4.out, HB11.out, HB12.out, O41.out, O42.out, HL4.out⟩
    case rest =>
    obtain ⟨rfl, G', hI, hA, hb11, hb12, o41, o42, lx⟩ := hcut
    have HI5 := Lib.hid hI
    have HA5 := Lib.hid hA
    have HC11 := Lib.hid hb11
    have HC12 := Lib.hid hb12
    have P41 := Lib.hid o41
    have P42 := Lib.hid o42
    have HL5 := Lib.hid lx
    clear hI hA hb11 hb12 o41 o42 lx HA4 HB11 HB12 O41 O42 HL4 HII HCK HCB hs' k0
    have t0c : wc.cell? ⟨g11, 0, none⟩ = some (.slice (some ⟨gv', 0, none⟩) s'.1.length c4) := HC11.out.cell 0 _ rfl
    go_wp2_with fail
    go_loopw [14] (fun kv w9 => wc = w9 ∧ ∃ k : Nat, k ≤ s'.1.length ∧ kv = .int .i64 k) (fun kv _ => s'.1.length - (intOf kv).toNat)
    case atStart => exact ⟨rfl, 0, Nat.zero_le _, rfl⟩
    case round =>
      obtain ⟨rfl, k, hk, rfl⟩ := hrel
      by_cases hkl2 : k < s'.1.length
      · obtain ⟨b, o, hA1, c0, _, _⟩ := (Has.ownG P41.out).col3 k hkl2
        injection hA1 with hA1
        injection hA1 with x1 x2
        subst x1 x2
        obtain ⟨h1, h2, h3⟩ := HI5.out.ids _ (List.getElem_mem hkl2)
        have hlast := HI5.out.last
        generalize (s'.1[k]).1 = xv at c0 h1 h2 h3
        obtain ⟨xn, rfl⟩ := Int.eq_ofNat_of_zero_le (show 0 ≤ xv by omega)
        rw [Nat.zero_add] at c0
        rw [Int.toNat_natCast] at h3
        have hx100 : xn < 100 := by omega
        have g1 : ¬ (xn : Int) < 1 := by omega
        have g2 : ¬ (99 : Int) < (xn : Int) := by omega
        have g3 : (xn : Int) < 100 := by omega
        have cg : wc.cell? ⟨gs + 2, xn, none⟩ = some (.bool false) := HA5.out.bg.cell xn _ (by rw [List.getElem?_toArray, gbs_get _ _ hx100, h3])
        have hki : (k : Int) < (s'.1.length : Int) := by omega
        clear h1 h2 h3 hlast
        go_wp2_with fail
        go_roundw
        case rel => exact ⟨by first | rfl | trivial, k + 1, hkl2, by go_num⟩
        case measure => simp [intOf]; omega
      · have hki : ¬ (k : Int) < (s'.1.length : Int) := by omega
        have hz : ((s'.1.length : Int) == 0) = false := beq_false_of_ne (by have := HI5.out.len; omega)
        go_upto_region 28 with fail
        clear t0c hki hz
        refine wp_region_K (S := (fun W : World => Blk W g11 #[.slice (some ⟨gv', 0, none⟩) s'.1.length c4, .int .i64 s'.2.1] 24 ∧ Blk W g12 #[.int .i64 s'.2.2.sb, .int .i64 s'.2.2.pb, .int .i64 s'.2.2.parts, .slice (some ⟨ge', 0, none⟩) s'.2.2.enc.length ec4] 27)) (R := fun a b => a = b) (fun _ => rfl) (by kernel_rfl) ?_
        obtain ⟨y0, hy0⟩ : ∃ x, wc.drew = x := ⟨_, rfl⟩
        have l0 : Later wc y0 := hy0 ▸ (Later.refl wc).drew
        have hS : (fun W : World => Blk W g11 #[.slice (some ⟨gv', 0, none⟩) s'.1.length c4, .int .i64 s'.2.1] 24 ∧ Blk W g12 #[.int .i64 s'.2.2.sb, .int .i64 s'.2.2.pb, .int .i64 s'.2.2.parts, .slice (some ⟨ge', 0, none⟩) s'.2.2.enc.length ec4] 27) y0 := ⟨HC11.out.later l0, HC12.out.later l0⟩
        rw [hy0]
        have HA6 := Lib.hid (HA5.out.later l0)
        have HO1 := Lib.hid (own_later P41.out l0)
        have HO2 := Lib.hid (own_later P42.out l0)
        have HL6 := Lib.hid (HL5.out.trans l0)
        clear hy0 l0
        refine wpAnyK_take (fun _ => rfl) (fun _ _ _ h k => h.trans k) (fun _ _ h k => k ▸ h) (i := 0) (oi := { dst := some 144, op := _, type := _, pos := _, after := _, guard := _ }) (v := ?_) rfl (by kernel_rfl) (by kernel_rfl) (by kernel_rfl) (fun _ _ _ h => h) (Or.inl (Or.inl ⟨by rfl, ?_⟩)) hS ?_
        rotate_left
        focus ((intro w hSw; (try dsimp only at hSw); have e0 := hSw.1.cell 0 _ rfl; have e1 := hSw.1.cell 1 _ rfl; go_simp); (try with_reducible rfl))
        intro wq hwq
        subst hwq
        (try simp only [Act.put, List.setIfInBounds_toArray, List.set_cons_zero, List.set_cons_succ])
        refine wpAnyK_take (fun _ => rfl) (fun _ _ _ h k => h.trans k) (fun _ _ h k => k ▸ h) (i := 1) (oi := { dst := some 145, op := _, type := _, pos := _, after := _, guard := _ }) (v := ?_) rfl (by kernel_rfl) (by kernel_rfl) (by kernel_rfl) (fun _ _ _ h => h) (Or.inl (Or.inl ⟨by rfl, ?_⟩)) hS ?_
        rotate_left
        focus ((intro w hSw; (try dsimp only at hSw); have e0 := hSw.2.cell 0 _ rfl; have e1 := hSw.2.cell 1 _ rfl; have e2 := hSw.2.cell 2 _ rfl; have e3 := hSw.2.cell 3 _ rfl; go_simp); (try with_reducible rfl))
        intro wq hwq
        subst hwq
        (try simp only [Act.put, List.setIfInBounds_toArray, List.set_cons_zero, List.set_cons_succ])
        refine wpAnyK_all (rs := [2]) (by kernel_rfl) (by simp) (fun i hi => ?_)
        simp only [List.mem_cons, List.not_mem_nil, or_false] at hi
        subst hi
        refine stepK (o := ⟨none, _, _, _, _, _⟩) rfl (fun K hK => ?_)
        (try rw [if_pos (by rfl)])
        refine wp_store_mid 24 _ _ rfl gs 0 #[.slice (some ⟨gv', 0, none⟩) s'.1.length c4, .int .i64 s'.2.1] rfl rfl (fun j hj => by rw [Nat.zero_add]; have hj2 : j < 2 := hj; exact ⟨by rw [cell_of_row y0 gs j _ _ _ HA6.out.bs, Array.getElem?_eq_getElem (by exact hj2)]; rfl, HA6.out.bs.frozen j⟩) (by kernel_rfl) (by simp [Value.oneCell']) ?_
        have hS2 : (fun W : World => Blk W g11 #[.slice (some ⟨gv', 0, none⟩) s'.1.length c4, .int .i64 s'.2.1] 24 ∧ Blk W g12 #[.int .i64 s'.2.2.sb, .int .i64 s'.2.2.pb, .int .i64 s'.2.2.parts, .slice (some ⟨ge', 0, none⟩) s'.2.2.enc.length ec4] 27) (y0.setCells gs 0 (sA s' gv' c4)) := ⟨hS.1.aside hgn1 0 _, hS.2.aside (ne_typ hS.2 HA6.out.bs (by decide)) 0 _⟩
        have hbl2 := HA6.out.bl.aside (ne_typ HA6.out.bl HA6.out.bs (by decide)) 0 (sA s' gv' c4)
        refine hK _ _ hS2 fun wq hwq => ?_
        obtain ⟨y1, hy1⟩ : ∃ x, y0.setCells gs 0 (sA s' gv' c4) = x := ⟨_, rfl⟩
        have hy2 : y1 = wq := hy1.symm.trans hwq
        subst hy2
        rw [hy1] at hS2 hbl2
        clear hK hwq hS
        (try simp only [Act.put])
        refine wpAnyK_all (rs := [3]) (by kernel_rfl) (by simp) (fun i hi => ?_)
        simp only [List.mem_cons, List.not_mem_nil, or_false] at hi
        subst hi
        refine stepK (o := ⟨none, _, _, _, _, _⟩) rfl (fun K hK => ?_)
        (try rw [if_pos (by rfl)])
        refine wp_store_mid 27 _ _ rfl (gs + 1) 0 #[.int .i64 s'.2.2.sb, .int .i64 s'.2.2.pb, .int .i64 s'.2.2.parts, .slice (some ⟨ge', 0, none⟩) s'.2.2.enc.length ec4] rfl rfl (fun j hj => by rw [Nat.zero_add]; have hj2 : j < 4 := hj; exact ⟨by rw [cell_of_row y1 (gs + 1) j _ _ _ hbl2, Array.getElem?_eq_getElem (by exact hj2)]; rfl, hbl2.frozen j⟩) (by kernel_rfl) (by simp [Value.oneCell']) ?_
        have hS3 : (fun W : World => Blk W g11 #[.slice (some ⟨gv', 0, none⟩) s'.1.length c4, .int .i64 s'.2.1] 24 ∧ Blk W g12 #[.int .i64 s'.2.2.sb, .int .i64 s'.2.2.pb, .int .i64 s'.2.2.parts, .slice (some ⟨ge', 0, none⟩) s'.2.2.enc.length ec4] 27) (y1.setCells (gs + 1) 0 (sB s' ge' ec4)) := ⟨hS2.1.aside (ne_typ hS2.1 hbl2 (by decide)) 0 _, hS2.2.aside hgn2 0 _⟩
        refine hK _ _ hS3 fun wq hwq => ?_
        have HA7 := Lib.hid (show IdA w.heap.size gs (gs + 1) (gs + 2) s' G' gv' c4 ge' ec4 wq from by rw [← hwq, ← hy1]; exact HA6.out.next1 HO1.out HO2.out)
        have HL7 := Lib.hid (show Later w wq from by rw [← hwq, ← hy1]; exact Later.fill (Later.fill HL6.out HA6.out.hb.1 0 _) HA6.out.hb.2.1 0 _)
        clear hK hwq hS2 hS3 hbl2 hy1 HA6 HO1 HO2 HL6
        (try simp only [Act.put])
        refine wpAnyK_done (by kernel_rfl) ?_ _
        go_wp2_with fail
        go_roundw
        case rel => exact IdR.mk _ (i + 1) s' G' gv' c4 ge' ec4 (by go_num) (by omega) (by omega) HI5.out HA7.out HL7.out
        case measure => simp [intOf]; omega
end Go.Proofs.YtklohbglkbhjhaaDoor
