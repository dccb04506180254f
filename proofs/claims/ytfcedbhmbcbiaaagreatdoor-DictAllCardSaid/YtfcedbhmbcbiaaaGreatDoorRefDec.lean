/- The walk of the reference's Decode, of any encoding: what read gives, put again, and compared. -/
import Derived.Test.YtfcedbhmbcbiaaaGreatDoorRefL
namespace Go.Proofs.YtfcedbhmbcbiaaaGreatDoor
open Go.RowKit
set_option linter.unusedVariables false

/-- What read tells: a list, as far as it goes, or a no. -/
def ReadsL (o : Option (List Val3)) (w : World) (e : Ending) (w' : World) : Prop :=
  ((o = none ∧ e = .returned (.tuple #[.slice none 0 0, .bool false])) ∨
    ∃ l L cl, o = some l ∧ e = .returned (.tuple #[.slice L l.length cl, .bool true]) ∧ Has w' L (fl l)) ∧ Later w w'

set_option maxRecDepth 100000 in
set_option maxHeartbeats 1000000 in
theorem refDec_gen (en t : Int) (n : Nat) (A : Option Addr) (c : Nat) (b : List Nat) (w : World) (put : List Val3 → Option (List Nat)) (o q : Option (List Val3)) (ht : 1 ≤ t ∧ t ≤ 4) (hn : n ≤ 1000) (hr : Has w A (ints .u8 b)) (h256 : ∀ x ∈ b, x < 256) (hb : b.length ≤ 1000000)
    (hrd : ∀ w', Later w w' → Calls Tryz.prog 28 #[.int .i64 en, .int .i64 t, .int .i64 n, .slice A b.length c] w' (ReadsL q w'))
    (he : ∀ (L : Option Addr) (cl : Nat) (l : List Val3) (w' : World), l.length ≤ 1000 → Has w' L (fl l) → All64 l → Calls Tryz.prog 8 #[.int .i64 en, .int .i64 t, .slice L l.length cl] w' (PutsB (put l) w'))
    (hq1 : ∀ l, q = some l → l.length ≤ 1000 ∧ All64 l)
    (hpl : ∀ l pb, q = some l → put l = some pb → (∀ x ∈ pb, x < 256) ∧ pb.length ≤ 1000000)
    (hy : ∀ l, q = some l → l.length = n → put l = some b → o = some l)
    (hno : (∀ l, q = some l → l.length = n → put l ≠ some b) → o = none) :
    Calls Tryz.prog 11 #[.int .i64 en, .int .i64 t, .int .i64 n, .slice A b.length c] w (PutsV o w) := by
  have HT := Lib.hid ht
  have HIT := Lib.hid (fun w => isType_any t w)
  have HRD := Lib.hid hrd
  have HENC := Lib.hid he
  have HQ1 := Lib.hid hq1
  have HPL := Lib.hid hpl
  have HY := Lib.hid hy
  have HNO := Lib.hid hno
  have HR := Lib.hid hr
  have HB := Lib.hid h256
  clear ht hr h256 hrd he hq1 hpl hy hno
  have hn0 : ¬ (n : Int) < 0 := by omega
  have hn1 : ¬ (1000 : Int) < (n : Int) := by omega
  go_enter Tryz.func11, Tryz.ntmps11
  go_wp2_with fail
  refine (HIT.out w).mono ?_
  intro e w1 h
  obtain ⟨rfl, L1⟩ := TellsP.yes HT.out (SaysP.tells h)
  clear h
  go_wp2_with fail
  refine (HRD.out w1 L1).mono ?_
  rintro e w2 ⟨⟨hq, rfl⟩ | ⟨l, L, cl, hq, rfl, hl⟩, l2⟩
  · have HN := Lib.hid (HNO.out fun l h => by have h := hq.symm.trans h; cases h)
    have L2 := L1.trans l2
    have HE := Lib.hid (HENC.out none 0 [] w2 (by simp) Has.nil_ (fun x hx => by cases hx))
    clear hq L1 l2 HNO HY HQ1 HPL HENC HRD
    go_wp2_with fail
    refine HE.out.mono ?_
    rintro e w3 ⟨⟨_, rfl⟩ | ⟨l', C, cc, _, rfl, _, _, _, _⟩, l3⟩
    · go_wp2_with fail
      go_ret2
      exact ⟨.inl ⟨HN.out, rfl⟩, L2.trans l3⟩
    · go_wp2_with fail
      go_ret2
      exact ⟨.inl ⟨HN.out, rfl⟩, L2.trans l3⟩
  · have L2 := L1.trans l2
    obtain ⟨hl1000, h64⟩ := HQ1.out l hq
    have HE := Lib.hid (HENC.out L cl l w2 (by omega) hl h64)
    have HQ := Lib.hid hq
    have HL := Lib.hid hl
    clear hq l2 L1 h64 HENC HRD hl
    cases hput : put l with
    | none =>
      have HPUT := Lib.hid hput
      have HN := Lib.hid (HNO.out fun l' h _ hp => by
        have h := HQ.out.symm.trans h; cases h; rw [hput] at hp; cases hp)
      clear hput HNO HY
      go_wp2_with fail
      refine HE.out.mono ?_
      intro e w3 h
      obtain ⟨rfl, l3⟩ := h.no HPUT.out
      clear h
      go_wp2_with fail
      go_ret2
      exact ⟨.inl ⟨HN.out, rfl⟩, L2.trans l3⟩
    | some pb =>
      have HPUT := Lib.hid hput
      have HLT := Lib.hid (HPL.out l pb HQ.out hput)
      clear hput HPL
      go_wp2_with fail
      refine HE.out.mono ?_
      intro e w3 h
      obtain ⟨C, cc, rfl, r3, _, _, _, l3⟩ := h.yes HPUT.out
      have L3 := L2.trans l3
      have cv1 := conv_str C pb.length cc pb rfl w3 _ r3
      have cv2 := conv_str A b.length c b rfl w3 _ (HR.out.later L3)
      have HL3 := Lib.hid (HL.out.later l3)
      clear h HE l3 L2 r3
      by_cases hlen : l.length = n
      · have HLEN := Lib.hid hlen
        have hd : ((l.length : Int) != (n : Int)) = false := by simp [hlen]
        clear hlen
        by_cases heq : pb = b
        · have HS := Lib.hid (HY.out l HQ.out HLEN.out (by rw [HPUT.out, heq]))
          subst heq
          clear HY HNO
          go_wp2_with fail
          go_ret2
          exact ⟨.inr ⟨l, L, cl, HS.out, rfl, HL3.out⟩, L3⟩
        · have HS := Lib.hid (HNO.out fun l' h _ hp => by
            have h := HQ.out.symm.trans h; cases h; rw [HPUT.out] at hp; cases hp; exact heq rfl)
          have hbn := bstr_ne HLT.out.1 HB.out heq
          clear HY HNO heq
          go_wp2_with fail
          go_ret2
          exact ⟨.inl ⟨HS.out, rfl⟩, L3⟩
      · have HS := Lib.hid (HNO.out fun l' h hln _ => by
          have h := HQ.out.symm.trans h; cases h; exact hlen hln)
        have hd : ((l.length : Int) != (n : Int)) = true := by simp; omega
        clear HY HNO hlen
        go_wp2_with fail
        go_ret2
        exact ⟨.inl ⟨HS.out, rfl⟩, L3⟩
end Go.Proofs.YtfcedbhmbcbiaaaGreatDoor
