/- The walk of the reference's Decode of rle. -/
import Derived.Test.YtifejanbgobngaaDoorRefRlE
import Derived.Test.YtifejanbgobngaaDoorRefRlD
import Derived.Test.YtifejanbgobngaaDoorRefL
namespace Go.Proofs.YtifejanbgobngaaDoor
open Go.RowKit
set_option linter.unusedVariables false

theorem takeL_bad {t n : Int} {b : List Nat} (h : ¬ ((1 ≤ t ∧ t ≤ 4) ∧ 0 ≤ n ∧ n ≤ 1000)) : takeL t n b = none := by unfold takeL; rw [if_neg h]
theorem takeL_len {t n : Int} {b : List Nat} {l : List Val3} (h256 : ∀ x ∈ b, x < 256) (h : takeL t n b = some l) : l.length ≤ 1000 := by
  unfold takeL at h
  split at h
  · rename_i hc
    have := (readR_is hc.1 _ _ _ _ h256 _ h).2.2.1
    omega
  · cases h
theorem refEncL_any (t : Int) (A : Option Addr) (c : Nat) (l : List Val3) (w : World) (hl : l.length ≤ 2000) (hr : Has w A (fl l)) (h64 : All64 l) :
    Calls Tryd.prog 15 #[.int .i64 2, .int .i64 t, .slice A l.length c] w (PutsB (putL t l) w) := by
  unfold putL
  by_cases h : (1 ≤ t ∧ t ≤ 4) ∧ OkL t l
  · rw [if_pos h]; exact (refEncL_yes t A c l.length l w rfl h.1 hl hr h.2 h64).mono fun _ _ h => h.puts
  · rw [if_neg h]; exact refEnc_no 2 t A c l w hl hr h
theorem refEncL_own (t : Int) (A : Option Addr) (c : Nat) (l : List Val3) (pb : List Nat) (w : World) (hl : l.length ≤ 2000) (hr : Has w A (fl l)) (h64 : All64 l) (hp : putL t l = some pb) :
    Calls Tryd.prog 15 #[.int .i64 2, .int .i64 t, .slice A l.length c] w (OwnB pb w) := by
  obtain ⟨h1, h2, rfl⟩ := putL_is hp
  exact refEncL_yes t A c l.length l w rfl h1 hl hr h2 h64

set_option maxRecDepth 100000 in
set_option maxHeartbeats 1000000 in
theorem refDecL_yes (t : Int) (n : Nat) (A : Option Addr) (c : Nat) (b : List Nat) (w : World) (ht : 1 ≤ t ∧ t ≤ 4) (hn : n ≤ 1000) (hr : Has w A (ints .u8 b)) (h256 : ∀ x ∈ b, x < 256) (hb : b.length ≤ 1000000) (hbc : b.length ≤ c) (hc : c ≤ 9223372036854775807) :
    Calls Tryd.prog 18 #[.int .i64 2, .int .i64 t, .int .i64 n, .slice A b.length c] w (PutsV (takeL t n b) w) := by
  have HTL := Lib.hid (takeL_readLQ ht hn h256)
  have HQ := Lib.hid (readLQ_is ht n n b h256)
  obtain ⟨o, ho⟩ : ∃ o, o = takeL t (n : Int) b := ⟨_, rfl⟩
  rw [← ho] at HTL ⊢
  have HT := Lib.hid ht
  have HIT := Lib.hid (fun w => isType_any t w)
  have HRD := Lib.hid (fun w' (l : Later w w') => refReadL_any t n A c b w' ht hn (hr.later l) h256 hb hbc hc)
  have HR := Lib.hid hr
  have HB := Lib.hid h256
  clear ho ht hr h256
  have hn0 : ¬ (n : Int) < 0 := by omega
  have hn1 : ¬ (1000 : Int) < (n : Int) := by omega
  go_enter Tryd.func18, Tryd.ntmps18
  go_wp2_with fail
  refine (HIT.out w).mono ?_
  intro e w1 h
  obtain ⟨rfl, L1⟩ := TellsP.yes HT.out (SaysP.tells h)
  clear h
  go_wp2_with fail
  refine (HRD.out w1 L1).mono ?_
  rintro e w2 ⟨⟨hq, rfl⟩ | ⟨l, r, L, cl, hq, rfl, hl⟩, l2⟩
  · have HN := Lib.hid (show o = none by rw [HTL.out, hq])
    have L2 := L1.trans l2
    have HE := Lib.hid (refEncL_any t none 0 [] w2 (by simp) Has.nil_ (fun x hx => by cases hx))
    clear hq L1 l2 HTL HQ
    go_wp2_with fail
    refine HE.out.mono ?_
    rintro e w3 ⟨⟨_, rfl⟩ | ⟨l', C, cc, _, rfl, _, _, _, _⟩, l3⟩
    · go_wp2_with fail
      go_ret2
      exact ⟨.inl ⟨HN.out, rfl⟩, L2.trans l3⟩
    · go_wp2_with fail
      go_ret2
      exact ⟨.inl ⟨HN.out, rfl⟩, L2.trans l3⟩
  · have L2 := L1.trans l2
    obtain ⟨hok, h64, hlen⟩ := HQ.out l r hq
    have hd : ((l.length : Int) != (n : Int)) = false := by simp [hlen]
    have HE := Lib.hid (refEncL_any t L cl l w2 (by omega) hl h64)
    obtain ⟨pb, hpb⟩ := putL_some HT.out hok
    have HPB := Lib.hid hpb
    have HPL := Lib.hid (putL_lt (by omega) hok h64 hpb)
    have hcase : (pb = b ∧ o = some l) ∨ (pb ≠ b ∧ o = none) := by
      obtain ⟨_, _, hp⟩ := putL_is hpb
      have h := HTL.out
      rw [hq] at h
      simp only at h
      rw [← hp] at h
      by_cases e : pb = b
      · rw [if_pos e] at h; exact .inl ⟨e, h⟩
      · rw [if_neg e] at h; exact .inr ⟨e, h⟩
    have HL := Lib.hid hl
    have HLEN := Lib.hid hlen
    clear hok h64 hlen hpb L1 l2 hl
    go_wp2_with fail
    refine HE.out.mono ?_
    intro e w3 h
    obtain ⟨C, cc, rfl, r3, _, _, _, l3⟩ := h.yes HPB.out
    have L3 := L2.trans l3
    have cv1 := conv_str C pb.length cc pb rfl w3 _ r3
    have cv2 := conv_str A b.length c b rfl w3 _ (HR.out.later L3)
    have HL3 := Lib.hid (HL.out.later l3)
    clear h HE l3 L2 r3
    rcases hcase with ⟨heq, ho⟩ | ⟨hne, ho⟩
    · have HS := Lib.hid ho
      subst heq
      clear hq HTL HQ ho
      go_wp2_with fail
      go_ret2
      exact ⟨.inr ⟨l, L, cl, HS.out, rfl, HL3.out⟩, L3⟩
    · have HS := Lib.hid ho
      have hbn := bstr_ne HPL.out HB.out hne
      clear hq HTL HQ hne ho
      go_wp2_with fail
      go_ret2
      exact ⟨.inl ⟨HS.out, rfl⟩, L3⟩

theorem refDecL_any (t n : Int) (A : Option Addr) (c : Nat) (b : List Nat) (w : World) (hr : Has w A (ints .u8 b)) (h256 : ∀ x ∈ b, x < 256) (hb : b.length ≤ 1000000) (hbc : b.length ≤ c) (hc : c ≤ 9223372036854775807) :
    Calls Tryd.prog 18 #[.int .i64 2, .int .i64 t, .int .i64 n, .slice A b.length c] w (PutsV (takeL t n b) w) := by
  by_cases h : (1 ≤ t ∧ t ≤ 4) ∧ 0 ≤ n ∧ n ≤ 1000
  · obtain ⟨m, rfl⟩ : ∃ m : Nat, n = (m : Int) := ⟨n.toNat, by omega⟩
    exact refDecL_yes t m A c b w h.1 (by omega) hr h256 hb hbc hc
  · rw [takeL_bad h]; exact refDec_no 2 t n A _ c w h
end Go.Proofs.YtifejanbgobngaaDoor
