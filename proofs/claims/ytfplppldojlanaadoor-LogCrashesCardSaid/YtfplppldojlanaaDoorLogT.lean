/- rabbetlaw21.light. -/
import Derived.Test.YtfplppldojlanaaDoorOpenBt
namespace Go.Proofs.YtfplppldojlanaaDoor
open Go.RowKit
set_option linter.unusedVariables false

def DeedL.light (d : DeedL) : Prop := d.b.l.length ≤ 700 ∧ d.l.length ≤ 5 ∧ d.keep.l.length ≤ 20 ∧ ∀ s ∈ d.l, s.l.length ≤ 300
/-- Whether deeds are light. -/
def Lights (L : List DeedL) : Prop := (∀ d ∈ L, d.light) ∧ L.length ≤ 20
def LitI (L : List DeedL) (w : World) (iv : Value) (wr : World) : Prop := ∃ i : Nat, iv = .int .i64 i ∧ i ≤ L.length ∧ wr = w ∧ ∀ j, (h : j < L.length) → j < i → L[j].light
theorem LitI.mk {L : List DeedL} {w : World} (a : Int) (i : Nat) (ha : a = (i : Int)) (hi : i ≤ L.length) (h : ∀ j, (h : j < L.length) → j < i → L[j].light) : LitI L w (.int .i64 a) w := by
  subst ha; exact ⟨i, rfl, hi, rfl, h⟩
def LitK (L : List SlB) (w : World) (iv : Value) (wr : World) : Prop := ∃ i : Nat, iv = .int .i64 i ∧ i ≤ L.length ∧ wr = w ∧ ∀ j, (h : j < L.length) → j < i → L[j].l.length ≤ 300
theorem LitK.mk {L : List SlB} {w : World} (a : Int) (i : Nat) (ha : a = (i : Int)) (hi : i ≤ L.length) (h : ∀ j, (h : j < L.length) → j < i → L[j].l.length ≤ 300) : LitK L w (.int .i64 a) w := by
  subst ha; exact ⟨i, rfl, hi, rfl, h⟩
/-- What light tells. -/
def LightP (L : List DeedL) (w : World) (e : Ending) (w' : World) : Prop := ∃ b : Bool, (b = true ↔ Lights L) ∧ e = .returned (.bool b) ∧ w' = w
set_option maxRecDepth 100000 in
set_option maxHeartbeats 1000000 in
theorem light21_any (a : Option Addr) (len cap : Nat) (L : List DeedL) (w : World) (h : IsDeedsL w a len cap L) :
    Calls Tryd.prog 8 #[.slice a len cap] w (LightP L w) := by
  have HD := Lib.hid h
  have hlen := h.2.2.2
  have HL := Lib.hid h.1
  clear h
  go_enter Tryd.func8, Tryd.ntmps8
  go_wp2_with fail
  go_loopw [3] (fun iv wr => LitI L w iv wr) (fun iv _ => len - (intOf iv).toNat)
  case atStart => exact LitI.mk 0 0 rfl (Nat.zero_le _) (fun j _ h => absurd h (Nat.not_lt_zero _))
  case round =>
    obtain ⟨i, rfl, hi, rfl, hall⟩ := hrel
    have HALL := Lib.hid hall
    by_cases hlt : i < len
    · have hiL : i < L.length := by rw [HL.out]; exact hlt
      obtain ⟨b, off, rfl, _, c1, c2, c3, _, _⟩ := HD.out.2.1 i hiL
      have hok := HD.out.2.2.1 _ (List.getElem_mem hiL)
      have hb := hok.2.2.2.1
      have hk := hok.2.2.2.2.1
      have hl := hok.2.2.2.2.2
      have k1 := c1.out
      have k2 := c2.out
      have k3 := c3.out
      obtain ⟨D, hD⟩ : ∃ D, D = L[i] := ⟨_, rfl⟩
      rw [← hD] at k1 k2 k3 hb hk hl
      have HDD := Lib.hid hD
      have HNO := Lib.hid (fun (h : ¬ D.light) => show (false = true ↔ Lights L) from ⟨(fun h => by cases h), fun hy => absurd (hy.1 D (by rw [HDD.out]; exact List.getElem_mem hiL)) h⟩)
      unfold SlB.v at k1 k3
      have hb1 := hb.2.2.2
      have hk1 := hk.2.2.2
      have hl1 := hl.2.2.2.2
      unfold maxLen at hl1
      have HBT := Lib.hid hl
      clear hall c1 c2 c3 hok hD hi hb hk hl
      by_cases h1 : D.b.l.length ≤ 700
      · have d1 : decide ((700 : Int) < (D.b.l.length : Int)) = false := by simp; omega
        by_cases h2 : D.l.length ≤ 5
        · have d2 : decide ((5 : Int) < (D.l.length : Int)) = false := by simp; omega
          by_cases h3 : D.keep.l.length ≤ 20
          · have d3 : decide ((20 : Int) < (D.keep.l.length : Int)) = false := by simp; omega
            go_wp2_with fail
            go_loopw [4] (fun kv wx => LitK D.l wr kv wx) (fun kv _ => D.l.length - (intOf kv).toNat)
            case atStart => exact LitK.mk 0 0 rfl (Nat.zero_le _) (fun j _ h => absurd h (Nat.not_lt_zero _))
            case round =>
              obtain ⟨k, rfl, hk, rfl, hallk⟩ := hrel
              have HALLK := Lib.hid hallk
              clear hallk
              by_cases hkl : k < D.l.length
              · obtain ⟨b2, o2, hA, _, hc⟩ := (HBT.out.2.1).at_ (k := k) (by rw [List.length_map]; exact hkl)
                rw [List.getElem_map] at hc
                unfold SlB.v at hc
                rw [hA] at k2
                obtain ⟨e, he⟩ : ∃ e, e = D.l[k] := ⟨_, rfl⟩
                rw [← he] at hc
                have HE := Lib.hid he
                have hel := (HBT.out.2.2.1 _ (List.getElem_mem hkl)).2.2.2
                rw [← he] at hel
                clear he hA
                by_cases h4 : e.l.length ≤ 300
                · have d4 : decide ((300 : Int) < (e.l.length : Int)) = false := by simp; omega
                  have d5 : decide ((k : Int) < (D.l.length : Int)) = true := by simp; omega
                  go_wp2_with fail
                  go_roundw
                  case rel => exact LitK.mk _ (k + 1) (by go_num) hkl (fun j hj hji => by
                    by_cases h : j < k
                    · exact HALLK.out j hj h
                    · have : j = k := by omega
                      subst this
                      rw [← HE.out]; exact h4)
                  case measure => simp [intOf]; omega
                · have d4 : decide ((300 : Int) < (e.l.length : Int)) = true := by simp; omega
                  have d5 : decide ((k : Int) < (D.l.length : Int)) = true := by simp; omega
                  go_wp2_with fail
                  go_ret
                  exact ⟨false, HNO.out (fun hy => h4 (hy.2.2.2 e (by rw [HE.out]; exact List.getElem_mem hkl))), rfl, rfl⟩
              · have d5 : decide ((k : Int) < (D.l.length : Int)) = false := by simp; omega
                go_wp2_with fail
                go_roundw
                case rel => exact LitI.mk _ (i + 1) (by go_num) hiL (fun j hj hji => by
                  by_cases h : j < i
                  · exact HALL.out j hj h
                  · have : j = i := by omega
                    subst this
                    rw [← HDD.out]
                    refine ⟨h1, h2, h3, fun s hs => ?_⟩
                    obtain ⟨m, hm, rfl⟩ := List.mem_iff_getElem.1 hs
                    exact HALLK.out m hm (by omega))
                case measure => simp [intOf]; omega
          · have d3 : decide ((20 : Int) < (D.keep.l.length : Int)) = true := by simp; omega
            go_wp2_with fail
            go_ret
            exact ⟨false, HNO.out (fun hy => h3 hy.2.2.1), rfl, rfl⟩
        · have d2 : decide ((5 : Int) < (D.l.length : Int)) = true := by simp; omega
          go_wp2_with fail
          go_ret
          exact ⟨false, HNO.out (fun hy => h2 hy.2.1), rfl, rfl⟩
      · have d1 : decide ((700 : Int) < (D.b.l.length : Int)) = true := by simp; omega
        go_wp2_with fail
        go_ret
        exact ⟨false, HNO.out (fun hy => h1 hy.1), rfl, rfl⟩
    · obtain rfl : i = len := by have := HL.out; omega
      clear hall hi
      have HA := Lib.hid (show ∀ d ∈ L, d.light from fun d hd => by
        obtain ⟨j, hj, rfl⟩ := List.mem_iff_getElem.1 hd
        exact HALL.out j hj (by have := HL.out; omega))
      by_cases h20 : i ≤ 20
      · have d1 : decide ((i : Int) ≤ 20) = true := by simp; omega
        go_wp2_with fail
        go_ret
        exact ⟨true, ⟨fun _ => ⟨HA.out, by rw [HL.out]; exact h20⟩, fun _ => rfl⟩, rfl, rfl⟩
      · have d1 : decide ((i : Int) ≤ 20) = false := by simp; omega
        go_wp2_with fail
        go_ret
        exact ⟨false, ⟨(fun h => by cases h), fun hy => absurd hy.2 (by rw [HL.out]; exact h20)⟩, rfl, rfl⟩
end Go.Proofs.YtfplppldojlanaaDoor
