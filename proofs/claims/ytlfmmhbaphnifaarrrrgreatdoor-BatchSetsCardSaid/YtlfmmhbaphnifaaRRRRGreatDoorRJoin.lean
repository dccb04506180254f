/- The document's Join. -/
import Derived.Test.YtlfmmhbaphnifaaRRRRGreatDoorRSet
import Derived.Deep.RegionHeld3
import Derived.Test.YtlfmmhbaphnifaaRRRRGreatDoorKripke
import Derived.Test.YtlfmmhbaphnifaaRRRRGreatDoorStepN
namespace Go.Proofs.YtlfmmhbaphnifaaRRRRGreatDoor
open Go.RowKit
set_option linter.unusedVariables false

theorem Has.ztake {w : World} {A : Option Addr} {l : List Int} (h : Has w A (zin l)) (j : Nat) : Has w A (zin (l.take j)) := by
  rcases h with h | ⟨b, off, e, hb, hc⟩
  · left
    rw [show zin (l.take j) = (zin l).take j by simp [zin], h]; simp
  · refine .inr ⟨b, off, e, hb, fun k v hv => hc k v ?_⟩
    rw [show zin (l.take j) = (zin l).take j by simp [zin], List.getElem?_take] at hv
    split at hv
    · exact hv
    · cases hv
theorem Has.zdrop {w : World} {b off : Nat} {l : List Int} (h : Has w (some ⟨b, off, none⟩) (zin l)) (j : Nat) : Has w (some ⟨b, off + j, none⟩) (zin (l.drop j)) := by
  rcases h with h | ⟨b', off', e, hb, hc⟩
  · left
    rw [show zin (l.drop j) = (zin l).drop j by simp [zin], h]; simp
  · injection e with e
    injection e with e1 e2
    subst e1 e2
    refine .inr ⟨b, off + j, rfl, hb, fun k v hv => ?_⟩
    rw [show zin (l.drop j) = (zin l).drop j by simp [zin], List.getElem?_drop] at hv
    have := hc _ v hv
    rw [Nat.add_assoc]; exact this
theorem cut_lt {l : List Int} {v : Int} {k : Nat} (hk : k < l.length) (hp : ∀ i (h : i < l.length), i < k → l[i] < v) (h : l[k] < v) : ∀ i (h : i < l.length), i < k + 1 → l[i] < v := fun i h1 h2 => by
  rcases Nat.lt_or_ge i k with h3 | h3
  · exact hp i h1 h3
  · obtain rfl : i = k := by omega
    exact h
theorem cut_end {l : List Int} {v : Int} {k : Nat} (hk : k ≤ l.length) (hp : ∀ i (h : i < l.length), i < k → l[i] < v) (h : ∀ (h : k < l.length), ¬ l[k] < v) : k = cutAt l v := by
  unfold cutAt
  have h1 : l.takeWhile (fun x => decide (x < v)) = l.take k := by
    conv => lhs; rw [← List.take_append_drop k l]
    have e1 : (l.take k).takeWhile (fun x => decide (x < v)) = l.take k := tw_all fun x hx => by
      obtain ⟨i, hi, rfl⟩ := List.mem_iff_getElem.1 hx
      rw [List.length_take] at hi
      rw [List.getElem_take]
      simpa using hp i (by omega) (by omega)
    rw [List.takeWhile_append, e1, if_pos rfl]
    have e2 : (l.drop k).takeWhile (fun x => decide (x < v)) = [] := by
      rcases Nat.lt_or_ge k l.length with h3 | h3
      · rw [List.drop_eq_getElem_cons h3, List.takeWhile_cons_of_neg (by simpa using h h3)]
      · rw [List.drop_of_length_le h3]; rfl
    rw [e2, List.append_nil]
  rw [h1, List.length_take]; omega

theorem joinR_snoc (a b : List Int) (v : Int) : joinR a (b ++ [v]) = insR a (joinR a b) v := by unfold joinR; rw [List.foldl_append]; rfl
theorem insR_len (a l : List Int) (v : Int) : (insR a l v).length ≤ l.length + 1 := by
  unfold insR
  split
  · omega
  · rw [List.length_append, List.length_append, List.length_take, List.length_drop]; simp; omega
theorem joinR_len (a b : List Int) : (joinR a b).length ≤ a.length + b.length := by
  unfold joinR
  have key : ∀ (b l : List Int), (b.foldl (insR a) l).length ≤ l.length + b.length := by
    intro b
    induction b with
    | nil => intro l; exact Nat.le_refl _
    | cons v r ih =>
      intro l
      rw [List.foldl_cons]
      have h1 := ih (insR a l v)
      have h2 := insR_len a l v
      rw [List.length_cons]; omega
  exact key b a
/-- Where Join's loop stands. -/
def JnI (a b : List Int) (w : World) (pv iv : Value) (wr : World) : Prop :=
  ∃ (k : Nat) (A : Option Addr) (n c : Nat), pv = .slice A n c ∧ iv = .int .i64 k ∧ k ≤ b.length ∧ n = (joinR a (b.take k)).length ∧ wr.ownsRow w.heap.size 3 1 (.slice A n c) n (zin (joinR a (b.take k))) ∧ (A = none → c = 0) ∧ Later w wr
theorem JnI.mk {a b : List Int} {w wr : World} (y : Int) (k : Nat) (A : Option Addr) (n c : Nat) (hy : y = (k : Int)) (hk : k ≤ b.length) (hn : n = (joinR a (b.take k)).length) (ho : wr.ownsRow w.heap.size 3 1 (.slice A n c) n (zin (joinR a (b.take k)))) (hA : A = none → c = 0) (l : Later w wr) : JnI a b w (.slice A n c) (.int .i64 y) wr := by
  subst hy; exact ⟨k, A, n, c, rfl, rfl, hk, hn, ho, hA, l⟩

set_option maxRecDepth 100000 in
set_option maxHeartbeats 4000000 in
theorem refJoin_any (A B : Option Addr) (n c m d : Nat) (a b : List Int) (w : World) (hn : n = a.length) (hm : m = b.length) (hl : n ≤ 1000) (hl2 : m ≤ 1000) (ha : Has w A (zin a)) (hb : Has w B (zin b)) (za : A = none → c = 0) :
    Calls Tryz.prog 27 #[.slice A n c, .slice B m d] w (IntsP (joinR a b) w) := by
  have HN := Lib.hid hn
  have HM := Lib.hid hm
  have HA := Lib.hid ha
  have HB := Lib.hid hb
  have HZA := Lib.hid za
  obtain ⟨w1, hw1⟩ : ∃ x : World, w.alloc (.cells #[] 3) = x := ⟨_, rfl⟩
  have l1 : Later w w1 := hw1 ▸ Later.new _ _
  have OW := Lib.hid (show w1.ownsRow w.heap.size 3 1 (.slice (some ⟨w.heap.size, 0, none⟩) 0 0) 0 (zin []) from hw1 ▸ (Blk.new w ([] : List Value).toArray 3 _ rfl).ownG (Nat.le_refl _) rfl (by decide))
  have HL1 := Lib.hid l1
  have HA1 := Lib.hid (ha.later l1)
  have HZN := Lib.hid (zin_length a)
  clear hn hm ha hb za l1
  go_enter Tryz.func27, Tryz.ntmps27
  go_wp2_with (at_builtin; refine wpList_append_g _ rfl (.tmp 8) (.tmp 9) 24 rfl w.heap.size 3 _ 1 8 Tryz.underlying24 info_z rfl (by decide) _ 0 _ rfl OW.out _ n c (zin a) rfl HA1.out (by rw [HZN.out]; have := HN.out; omega) HZA.out (zin_one _) (by unfold maxLen; omega) (by omega) (HL1.out.size) ?_; rintro A' c' wq hO _ hbel hn2; have HO2 := Lib.hid hO; have HN2 := Lib.hid hn2; have HL2 := Lib.hid (Later.of (HL1.out.below.trans hbel)); clear hO hn2 hbel)
  clear hw1
  have HI0 := Lib.hid (show JnI a b w (.slice A' n c') (.int .i64 0) wq from JnI.mk 0 0 _ _ _ rfl (Nat.zero_le _) (by rw [HN.out]; rfl) (by simpa [zin, joinR] using HO2.out) HN2.out HL2.out)
  go_loopw [5, 6] (fun pv iv wr => JnI a b w pv iv wr) (fun _ i _ => m - (intOf i).toNat)
  case atStart => exact HI0.out
  case round =>
    obtain ⟨k, P, pn, pc, rfl, rfl, hk, hpn, hown, hnil, lat⟩ := hrel
    have HOWN := Lib.hid hown
    have HNIL := Lib.hid hnil
    have HLAT := Lib.hid lat
    have HPN := Lib.hid hpn
    have hpb : pn ≤ 2000 := by have := joinR_len a (b.take k); rw [List.length_take] at this; have := HN.out; have := HM.out; omega
    clear HI0 hown hnil hpn HO2 HN2 HL2
    by_cases hlt : k < m
    · have hkr : k < b.length := by have := HM.out; omega
      obtain ⟨bb, bo, hBB, ck⟩ := (HB.out.later lat).zat k hkr
      subst hBB
      obtain ⟨x, hx⟩ : ∃ x, b[k] = x := ⟨_, rfl⟩
      rw [hx] at ck
      have HT := Lib.hid (show joinR a (b.take (k + 1)) = insR a (joinR a (b.take k)) x by rw [List.take_succ_eq_append_getElem hkr, joinR_snoc, hx])
      have HS := Lib.hid (in_any A n c a x wr HN.out (by omega) (HA.out.later lat))
      obtain ⟨L, hL⟩ : ∃ L, joinR a (b.take k) = L := ⟨_, rfl⟩
      rw [hL] at HOWN HPN HT
      have HLL := Lib.hid hL
      clear hx lat hL
      go_wp2_with fail
      refine HS.out.mono ?_
      rintro e wX ⟨rfl, rfl⟩
      clear HS
      by_cases hp : x ∈ a
      · have hd : decide (x ∈ a) = true := by simpa using hp
        rw [hd]
        have HT2 := Lib.hid (show joinR a (b.take (k + 1)) = L by rw [HT.out]; unfold insR; rw [if_pos hp])
        clear hd hp HT
        go_wp2_with fail
        go_roundw
        all_goals first
          | exact JnI.mk _ (k + 1) _ _ _ (by go_num) hkr (by rw [HT2.out]; exact HPN.out) (by rw [HT2.out]; exact HOWN.out) HNIL.out HLAT.out
          | (simp [intOf]; omega)
      · have hd : decide (x ∈ a) = false := by simpa using hp
        rw [hd]
        have HT2 := Lib.hid (show joinR a (b.take (k + 1)) = L.take (cutAt L x) ++ [x] ++ L.drop (cutAt L x) by rw [HT.out]; unfold insR; rw [if_neg hp])
        have HHL := Lib.hid (Has.own HOWN.out)
        obtain ⟨ws, hws⟩ : ∃ x, x = wr := ⟨_, rfl⟩
        subst hws
        have HKB := Lib.hid (show bb < ws.heap.size from block_lt_of_cell ck)
        have HCAP := Lib.hid (own_cap HOWN.out)
        clear hd hp HT
        go_wp2_with fail
        go_loopw [7] (fun iv wz => ∃ j : Nat, j ≤ pn ∧ iv = .int .i64 j ∧ (∀ i (h : i < L.length), i < j → L[i] < x) ∧ Later ws wz) (fun i _ => pn - (intOf i).toNat)
        case atStart => exact ⟨0, Nat.zero_le _, rfl, fun i h hi => absurd hi (Nat.not_lt_zero _), Later.refl _⟩
        case round =>
          obtain ⟨j, hj, rfl, hall, lz⟩ := hrel
          have HALL := Lib.hid hall
          clear hall
          have ck2 := lz.cell ck
          by_cases hjp : j < pn
          · have hjl : j < L.length := by have := HPN.out; omega
            obtain ⟨pb, po, hPB, cl⟩ := (HHL.out.later lz).zat j hjl
            subst hPB
            have HLT := Lib.hid (fun h => cut_lt hjl HALL.out h)
            have HGE := Lib.hid (fun (h : ¬ L[j] < x) => cut_end (by omega : j ≤ L.length) HALL.out (fun _ => h))
            generalize L[j] = y at cl HLT HGE
            have HLZ := Lib.hid lz
            have hjd : decide ((j : Int) < (pn : Int)) = true := by simp; omega
            have hji : (j : Int) < (pn : Int) := by omega
            clear lz ck
            by_cases hyx : y < x
            · have HA2 := Lib.hid (HLT.out hyx)
              clear HLT HGE
              go_wp2_with fail
              go_quiet (fail)
              go_wp2_with fail
              all_goals go_roundw
              all_goals first
                | exact ⟨j + 1, hjp, by go_num, HA2.out, HLZ.out.drewN _⟩
                | (simp [intOf]; omega)
            · have HC := Lib.hid (HGE.out hyx)
              clear HLT HGE
              go_wp2_with fail
              go_quiet (fail)
              go_wp2_with fail
              obtain ⟨wv, hwv⟩ : ∃ x, wr.drewN nq = x := ⟨_, rfl⟩
              rw [hwv]
              have lwv : Later wr wv := hwv ▸ (Later.refl wr).drewN _
              refine wp_region_K (S := fun W : World => W.cell? ⟨bb, bo + k, none⟩ = some (.int .i64 x)) (R := fun a b => a = b) (fun _ => rfl) (by kernel_rfl) ?_
              obtain ⟨W0, hW0⟩ : ∃ x, wv.drew = x := ⟨_, rfl⟩
              rw [hW0]
              have lW0 : Later ws W0 := HLZ.out.trans (hW0 ▸ lwv.drew)
              have hS : (fun W : World => W.cell? ⟨bb, bo + k, none⟩ = some (.int .i64 x)) W0 := (hW0 ▸ lwv.drew : Later wr W0).cell ck2
              dsimp only at hS
              have hszv : wr.heap.size ≤ W0.heap.size := (hW0 ▸ lwv.drew : Later wr W0).size
              clear hwv hW0 lwv ck2
              have HSZ := Lib.hid (Nat.le_refl W0.heap.size)
              have HBB := Lib.hid (show bb < W0.heap.size from Nat.lt_of_lt_of_le HKB.out lW0.size)
              have HWS := Lib.hid (show w.heap.size ≤ W0.heap.size from (HLAT.out.trans lW0).size)
              have HLN := Lib.hid (Below.refl W0.heap.size W0)
              have HTL := Lib.hid (show (L.take j).length = j * 1 by rw [List.length_take]; have := HPN.out; omega)
              have HDL := Lib.hid (show (L.drop j).length = (pn - j) * 1 by rw [List.length_drop]; have := HPN.out; omega)
              have HPB := Lib.hid (show pb < W0.heap.size from Nat.lt_of_lt_of_le (block_lt_of_cell cl) (hszv))
              have hpj : ¬ pc - j = 0 := by have := HCAP.out; omega
              have hpj2 : ¬ pc = j := by have := HCAP.out; omega
              have hpj3 : j ≤ pc := by have := HCAP.out; omega
              have hpj4 : pn ≤ pc := HCAP.out
              have HH1 := Lib.hid (show Has W0 (some ⟨pb, po, none⟩ : Option Addr) (zin (L.take j)) from (HHL.out.later lW0).ztake j)
              have HH2 := Lib.hid (show Has W0 (some ⟨pb, po + j, none⟩ : Option Addr) (zin (L.drop j)) from (HHL.out.later lW0).zdrop j)
              have HP2 := Lib.hid (show ∀ b off, (some ⟨pb, po + j, none⟩ : Option Addr) = some ⟨b, off, none⟩ → b < W0.heap.size from fun b off e => by injection e with e; injection e with e1 e2; rw [← e1]; exact HPB.out)
              have HN1 := Lib.hid (show (some ⟨pb, po, none⟩ : Option Addr) = none → pc = 0 from fun h => by cases h)
              have HN2x := Lib.hid (show (some ⟨pb, po + j, none⟩ : Option Addr) = none → pc - j = 0 from fun h => by cases h)
              refine wpAnyK_take (fun _ => rfl) (fun _ _ _ h k => h.trans k) (fun _ _ h k => k ▸ h) (i := 1) (oi := { dst := some 41, op := _, type := _, pos := _, after := _, guard := _ }) (v := ?_) rfl (by kernel_rfl) (by kernel_rfl) (by kernel_rfl) (fun _ _ _ h => h) (Or.inl (Or.inl ⟨by rfl, ?_⟩)) hS ?_
              rotate_left
              focus ((intro w hSw; (try dsimp only at hSw); go_simp); (try with_reducible rfl))
              intro wq' hwq
              subst hwq
              (try simp only [Act.put, List.setIfInBounds_toArray, List.set_cons_zero, List.set_cons_succ])
              refine wpAnyK_take (fun _ => rfl) (fun _ _ _ h k => h.trans k) (fun _ _ h k => k ▸ h) (i := 2) (oi := { dst := some 42, op := _, type := _, pos := _, after := _, guard := _ }) (v := ?_) rfl (by kernel_rfl) (by kernel_rfl) (by kernel_rfl) (fun _ _ _ h => h) (Or.inl (Or.inl ⟨by rfl, ?_⟩)) hS ?_
              rotate_left
              focus ((intro w hSw; (try dsimp only at hSw); go_simp); (try with_reducible rfl))
              intro wq' hwq
              subst hwq
              (try simp only [Act.put, List.setIfInBounds_toArray, List.set_cons_zero, List.set_cons_succ])
              refine wpAnyK_take (fun _ => rfl) (fun _ _ _ h k => h.trans k) (fun _ _ h k => k ▸ h) (i := 3) (oi := { dst := some 43, op := _, type := _, pos := _, after := _, guard := _ }) (v := ?_) rfl (by kernel_rfl) (by kernel_rfl) (by kernel_rfl) (fun _ _ _ h => h) (Or.inl (Or.inl ⟨by rfl, ?_⟩)) hS ?_
              rotate_left
              focus ((intro w hSw; (try dsimp only at hSw); go_simp); (try with_reducible rfl))
              intro wq' hwq
              subst hwq
              (try simp only [Act.put, List.setIfInBounds_toArray, List.set_cons_zero, List.set_cons_succ])
              refine wpAnyK_take (fun _ => rfl) (fun _ _ _ h k => h.trans k) (fun _ _ h k => k ▸ h) (i := 5) (oi := { dst := some 45, op := _, type := _, pos := _, after := _, guard := _ }) (v := ?_) rfl (by kernel_rfl) (by kernel_rfl) (by kernel_rfl) (fun _ _ _ h => h) (Or.inl (Or.inl ⟨by rfl, ?_⟩)) hS ?_
              rotate_left
              focus ((intro w hSw; (try dsimp only at hSw); go_simp); (try with_reducible rfl))
              intro wq' hwq
              subst hwq
              (try simp only [Act.put, List.setIfInBounds_toArray, List.set_cons_zero, List.set_cons_succ])
              refine wpAnyK_take (fun _ => rfl) (fun _ _ _ h k => h.trans k) (fun _ _ h k => k ▸ h) (i := 6) (oi := { dst := some 46, op := _, type := _, pos := _, after := _, guard := _ }) (v := ?_) rfl (by kernel_rfl) (by kernel_rfl) (by kernel_rfl) (fun _ _ _ h => h) (Or.inl (Or.inl ⟨by rfl, ?_⟩)) hS ?_
              rotate_left
              focus ((intro w hSw; (try dsimp only at hSw); go_simp); (try with_reducible rfl))
              intro wq' hwq
              subst hwq
              (try simp only [Act.put, List.setIfInBounds_toArray, List.set_cons_zero, List.set_cons_succ])
              refine wpAnyK_take (fun _ => rfl) (fun _ _ _ h k => h.trans k) (fun _ _ h k => k ▸ h) (i := 7) (oi := { dst := some 47, op := _, type := _, pos := _, after := _, guard := _ }) (v := ?_) rfl (by kernel_rfl) (by kernel_rfl) (by kernel_rfl) (fun _ _ _ h => h) (Or.inl (Or.inl ⟨by rfl, ?_⟩)) hS ?_
              rotate_left
              focus ((intro w hSw; (try dsimp only at hSw); go_simp); (try with_reducible rfl))
              intro wq' hwq
              subst hwq
              (try simp only [Act.put, List.setIfInBounds_toArray, List.set_cons_zero, List.set_cons_succ])
              refine wpAnyK_take (fun _ => rfl) (fun _ _ _ h k => h.trans k) (fun _ _ h k => k ▸ h) (i := 8) (oi := { dst := some 48, op := _, type := _, pos := _, after := _, guard := _ }) (v := ?_) rfl (by kernel_rfl) (by kernel_rfl) (by kernel_rfl) (fun _ _ _ h => h) (Or.inl (Or.inl ⟨by rfl, ?_⟩)) hS ?_
              rotate_left
              focus ((intro w hSw; (try dsimp only at hSw); go_simp); (try with_reducible rfl))
              intro wq' hwq
              subst hwq
              (try simp only [Act.put, List.setIfInBounds_toArray, List.set_cons_zero, List.set_cons_succ])
              refine wpAnyK_take (fun _ => rfl) (fun _ _ _ h k => h.trans k) (fun _ _ h k => k ▸ h) (i := 11) (oi := { dst := some 51, op := _, type := _, pos := _, after := _, guard := _ }) (v := ?_) rfl (by kernel_rfl) (by kernel_rfl) (by kernel_rfl) (fun _ _ _ h => h) (Or.inl (Or.inl ⟨by rfl, ?_⟩)) hS ?_
              rotate_left
              focus ((intro w hSw; (try dsimp only at hSw); go_simp); (try with_reducible rfl))
              intro wq' hwq
              subst hwq
              (try simp only [Act.put, List.setIfInBounds_toArray, List.set_cons_zero, List.set_cons_succ])
              refine wpAnyK_take (fun _ => rfl) (fun _ _ _ h k => h.trans k) (fun _ _ h k => k ▸ h) (i := 12) (oi := { dst := some 52, op := _, type := _, pos := _, after := _, guard := _ }) (v := ?_) rfl (by kernel_rfl) (by kernel_rfl) (by kernel_rfl) (fun _ _ _ h => h) (Or.inl (Or.inl ⟨by rfl, ?_⟩)) hS ?_
              rotate_left
              focus ((intro w hSw; (try dsimp only at hSw); go_simp); (try with_reducible rfl))
              intro wq' hwq
              subst hwq
              (try simp only [Act.put, List.setIfInBounds_toArray, List.set_cons_zero, List.set_cons_succ])
              refine wpAnyK_take (fun _ => rfl) (fun _ _ _ h k => h.trans k) (fun _ _ h k => k ▸ h) (i := 13) (oi := { dst := some 53, op := _, type := _, pos := _, after := _, guard := _ }) (v := ?_) rfl (by kernel_rfl) (by kernel_rfl) (by kernel_rfl) (fun _ _ _ h => h) (Or.inl (Or.inl ⟨by rfl, ?_⟩)) hS ?_
              rotate_left
              focus ((intro w hSw; (try dsimp only at hSw); go_simp); (try with_reducible rfl))
              intro wq' hwq
              subst hwq
              (try simp only [Act.put, List.setIfInBounds_toArray, List.set_cons_zero, List.set_cons_succ])
              refine wpAnyK_all (rs := [0, 9]) (by kernel_rfl) (by simp) (fun i hi => ?_)
              simp only [List.mem_cons, List.not_mem_nil, or_false] at hi
              rcases hi with rfl | rfl
              · refine stepK (o := { dst := some 40, op := _, type := _, pos := _, after := _, guard := _ }) rfl (fun K hK => ?_)
                go_simp
                obtain ⟨g40, hg40⟩ : ∃ x, W0.heap.size = x := ⟨_, rfl⟩
                obtain ⟨v1, hv1⟩ : ∃ y : World, W0.alloc (.cells #[] 3) = y := ⟨_, rfl⟩
                have lv1 : Later W0 v1 := hv1 ▸ Later.new _ _
                have Hg40 := Lib.hid (show W0.heap.size ≤ g40 ∧ g40 < v1.heap.size from ⟨Nat.le_of_eq hg40, by rw [← hv1, ← hg40]; simp⟩)
                have HO40 := Lib.hid (show v1.ownsRow W0.heap.size 3 1 (.slice (some ⟨g40, 0, none⟩) 0 0) 0 [] from hg40 ▸ hv1 ▸ own_empty W0 W0.heap.size 3 1 HSZ.out)
                try rw [hg40]
                rw [hv1]
                replace hS := lv1.cell hS
                have HSZO := HSZ
                have HSZ := Lib.hid (Nat.le_trans HSZ.out lv1.size)
                have HH1 := Lib.hid (HH1.out.later lv1)
                have HH2 := Lib.hid (HH2.out.later lv1)
                have HLN := Lib.hid (HLN.out.trans (lv1.below.mono HSZO.out))
                refine hK _ _ hS ?_
                clear hv1 hg40 HSZO
                intro wq' hwq
                subst hwq
                clear hK
                (try simp only [Act.put, List.setIfInBounds_toArray, List.set_cons_zero, List.set_cons_succ])
                refine wpAnyK_all (rs := [4, 9]) (by kernel_rfl) (by simp) (fun i hi => ?_)
                simp only [List.mem_cons, List.not_mem_nil, or_false] at hi
                rcases hi with rfl | rfl
                · refine stepK (o := { dst := some 44, op := _, type := _, pos := _, after := _, guard := _ }) rfl (fun K hK => ?_)
                  refine step_append_n rfl (.tmp 40) (.tmp 43) 24 rfl W0.heap.size 3 _ 1 8 Tryz.underlying24 info_z rfl (by decide) _ (0) ([]) rfl HO40.out (some ⟨pb, po, none⟩ : Option Addr) (j) (pc) (zin (L.take j)) rfl HH1.out (by rw [zin_length]; exact HTL.out) HN1.out (zin_one _) (by unfold maxLen; omega) (by omega) HSZ.out ?_
                  rintro QA Qc v2 ho hgr hbl hnl
                  rw [Nat.zero_add, List.nil_append] at ho
                  rw [Nat.zero_add]
                  have HO44 := Lib.hid ho
                  replace hS : v2.cell? ⟨bb, bo + k, none⟩ = some (.int .i64 x) := (hbl.cell HBB.out).trans hS
                  have HSZ := Lib.hid (Nat.le_trans HSZ.out hbl.size)
                  have HH2 := Lib.hid (has_below HH2.out HP2.out hbl)
                  have HLN := Lib.hid (HLN.out.trans hbl)
                  have HQN := Lib.hid hnl
                  refine hK _ _ hS ?_
                  clear ho hgr hbl hnl
                  intro wq' hwq
                  subst hwq
                  clear hK
                  (try simp only [Act.put, List.setIfInBounds_toArray, List.set_cons_zero, List.set_cons_succ])
                  refine wpAnyK_all (rs := [9]) (by kernel_rfl) (by simp) (fun i hi => ?_)
                  simp only [List.mem_cons, List.not_mem_nil, or_false] at hi
                  subst hi
                  refine stepK (o := { dst := some 49, op := _, type := _, pos := _, after := _, guard := _ }) rfl (fun K hK => ?_)
                  go_simp
                  obtain ⟨g49, hg49⟩ : ∃ x, v2.heap.size = x := ⟨_, rfl⟩
                  obtain ⟨v4, hv4⟩ : ∃ y : World, v2.alloc (.cells #[.int .i64 x] 3) = y := ⟨_, rfl⟩
                  have lv4 : Later v2 v4 := hv4 ▸ Later.new _ _
                  have Hg49 := Lib.hid (show v2.heap.size ≤ g49 ∧ g49 < v4.heap.size from ⟨Nat.le_of_eq hg49, by rw [← hv4, ← hg49]; simp⟩)
                  have HLT := Lib.hid (show Has v4 (some ⟨g49, 0, none⟩) [.int .i64 x] from hv4 ▸ (Blk.new v2 [Value.int .i64 x].toArray 3 g49 hg49.symm).has)
                  have HO44 := Lib.hid (own_later HO44.out lv4)
                  try rw [hg49]
                  rw [hv4]
                  replace hS := lv4.cell hS
                  have HSZO := HSZ
                  have HSZ := Lib.hid (Nat.le_trans HSZ.out lv4.size)
                  have HH2 := Lib.hid (HH2.out.later lv4)
                  have HLN := Lib.hid (HLN.out.trans (lv4.below.mono HSZO.out))
                  refine hK _ _ hS ?_
                  clear hv4 hg49 HSZO
                  intro wq' hwq
                  subst hwq
                  clear hK
                  (try simp only [Act.put, List.setIfInBounds_toArray, List.set_cons_zero, List.set_cons_succ])
                  refine wpAnyK_all (rs := [10]) (by kernel_rfl) (by simp) (fun i hi => ?_)
                  simp only [List.mem_cons, List.not_mem_nil, or_false] at hi
                  subst hi
                  refine stepK (o := { dst := some 50, op := _, type := _, pos := _, after := _, guard := _ }) rfl (fun K hK => ?_)
                  refine step_append_n rfl (.tmp 44) (.tmp 49) 24 rfl W0.heap.size 3 _ 1 8 Tryz.underlying24 info_z rfl (by decide) _ (j) (zin (L.take j)) rfl HO44.out (some ⟨g49, 0, none⟩) (1) (1) ([.int .i64 x]) rfl HLT.out rfl (fun h => by cases h) (by simp [Value.oneCell']) (by unfold maxLen; omega) (by omega) HSZ.out ?_
                  rintro RA Rc v5 ho hgr hbl hnl
                  have HO50 := Lib.hid ho
                  replace hS : v5.cell? ⟨bb, bo + k, none⟩ = some (.int .i64 x) := (hbl.cell HBB.out).trans hS
                  have HSZ := Lib.hid (Nat.le_trans HSZ.out hbl.size)
                  have HH2 := Lib.hid (has_below HH2.out HP2.out hbl)
                  have HLN := Lib.hid (HLN.out.trans hbl)
                  have HRN := Lib.hid hnl
                  refine hK _ _ hS ?_
                  clear ho hgr hbl hnl
                  intro wq' hwq
                  subst hwq
                  clear hK
                  (try simp only [Act.put, List.setIfInBounds_toArray, List.set_cons_zero, List.set_cons_succ])
                  refine wpAnyK_all (rs := [14]) (by kernel_rfl) (by simp) (fun i hi => ?_)
                  simp only [List.mem_cons, List.not_mem_nil, or_false] at hi
                  subst hi
                  refine stepK (o := { dst := some 54, op := _, type := _, pos := _, after := _, guard := _ }) rfl (fun K hK => ?_)
                  refine step_append_n rfl (.tmp 50) (.tmp 53) 24 rfl W0.heap.size 3 _ 1 8 Tryz.underlying24 info_z rfl (by decide) _ (j + 1) (zin (L.take j) ++ [Value.int .i64 x]) rfl HO50.out (some ⟨pb, po + j, none⟩ : Option Addr) (pn - j) (pc - j) (zin (L.drop j)) rfl HH2.out (by rw [zin_length]; exact HDL.out) HN2x.out (zin_one _) (by unfold maxLen; omega) (by omega) HSZ.out ?_
                  rintro TA Tc v6 ho hgr hbl hnl
                  have HO54 := Lib.hid ho
                  replace hS : v6.cell? ⟨bb, bo + k, none⟩ = some (.int .i64 x) := (hbl.cell HBB.out).trans hS
                  have HSZ := Lib.hid (Nat.le_trans HSZ.out hbl.size)
                  have HH2 := Lib.hid (has_below HH2.out HP2.out hbl)
                  have HLN := Lib.hid (HLN.out.trans hbl)
                  have HTN := Lib.hid hnl
                  refine hK _ _ hS ?_
                  clear ho hgr hbl hnl
                  intro wq' hwq
                  subst hwq
                  clear hK
                  (try simp only [Act.put, List.setIfInBounds_toArray, List.set_cons_zero, List.set_cons_succ])
                  refine wpAnyK_take (fun _ => rfl) (fun _ _ _ h k => h.trans k) (fun _ _ h k => k ▸ h) (i := 15) (oi := { dst := some 5, op := _, type := _, pos := _, after := _, guard := _ }) (v := ?_) rfl (by kernel_rfl) (by kernel_rfl) (by kernel_rfl) (fun _ _ _ h => h) (Or.inl (Or.inl ⟨by rfl, ?_⟩)) hS ?_
                  rotate_left
                  focus ((intro w hSw; (try dsimp only at hSw); go_simp); (try with_reducible rfl))
                  intro wq' hwq
                  subst hwq
                  (try simp only [Act.put, List.setIfInBounds_toArray, List.set_cons_zero, List.set_cons_succ])
                  refine wpAnyK_done (by kernel_rfl) ?_ _
                  obtain ⟨tn, htn⟩ : ∃ tn, j + 1 + (pn - j) = tn := ⟨_, rfl⟩
                  rw [htn] at HO54 ⊢
                  have HOF := Lib.hid (show v6.ownsRow w.heap.size 3 1 (.slice TA tn Tc) tn (zin (joinR a (b.take (k + 1)))) from by
                    have h := own_mono HO54.out HWS.out
                    rw [HT2.out, ← HC.out]
                    simpa [zin] using h)
                  have HOL := Lib.hid (show tn = (joinR a (b.take (k + 1))).length from by
                    have h := HOF.out.1
                    rw [zin_length] at h; omega)
                  have HLF := Lib.hid (show Later w v6 from Later.of ((HLAT.out.trans lW0).below.trans (HLN.out.mono HWS.out)))
                  clear hS htn lW0
                  go_wp2_with fail
                  go_roundw
                  all_goals first
                    | exact JnI.mk _ (k + 1) _ _ _ (by go_num) hkr HOL.out HOF.out HTN.out HLF.out
                    | (simp [intOf]; omega)
                · refine stepK (o := { dst := some 49, op := _, type := _, pos := _, after := _, guard := _ }) rfl (fun K hK => ?_)
                  go_simp
                  obtain ⟨g49, hg49⟩ : ∃ x, v1.heap.size = x := ⟨_, rfl⟩
                  obtain ⟨v2, hv2⟩ : ∃ y : World, v1.alloc (.cells #[.int .i64 x] 3) = y := ⟨_, rfl⟩
                  have lv2 : Later v1 v2 := hv2 ▸ Later.new _ _
                  have Hg49 := Lib.hid (show v1.heap.size ≤ g49 ∧ g49 < v2.heap.size from ⟨Nat.le_of_eq hg49, by rw [← hv2, ← hg49]; simp⟩)
                  have HLT := Lib.hid (show Has v2 (some ⟨g49, 0, none⟩) [.int .i64 x] from hv2 ▸ (Blk.new v1 [Value.int .i64 x].toArray 3 g49 hg49.symm).has)
                  have HO40 := Lib.hid (own_later HO40.out lv2)
                  try rw [hg49]
                  rw [hv2]
                  replace hS := lv2.cell hS
                  have HSZO := HSZ
                  have HSZ := Lib.hid (Nat.le_trans HSZ.out lv2.size)
                  have HH1 := Lib.hid (HH1.out.later lv2)
                  have HH2 := Lib.hid (HH2.out.later lv2)
                  have HLN := Lib.hid (HLN.out.trans (lv2.below.mono HSZO.out))
                  refine hK _ _ hS ?_
                  clear hv2 hg49 HSZO
                  intro wq' hwq
                  subst hwq
                  clear hK
                  (try simp only [Act.put, List.setIfInBounds_toArray, List.set_cons_zero, List.set_cons_succ])
                  refine wpAnyK_all (rs := [4]) (by kernel_rfl) (by simp) (fun i hi => ?_)
                  simp only [List.mem_cons, List.not_mem_nil, or_false] at hi
                  subst hi
                  refine stepK (o := { dst := some 44, op := _, type := _, pos := _, after := _, guard := _ }) rfl (fun K hK => ?_)
                  refine step_append_n rfl (.tmp 40) (.tmp 43) 24 rfl W0.heap.size 3 _ 1 8 Tryz.underlying24 info_z rfl (by decide) _ (0) ([]) rfl HO40.out (some ⟨pb, po, none⟩ : Option Addr) (j) (pc) (zin (L.take j)) rfl HH1.out (by rw [zin_length]; exact HTL.out) HN1.out (zin_one _) (by unfold maxLen; omega) (by omega) HSZ.out ?_
                  rintro QA Qc v4 ho hgr hbl hnl
                  rw [Nat.zero_add, List.nil_append] at ho
                  rw [Nat.zero_add]
                  have HO44 := Lib.hid ho
                  replace hS : v4.cell? ⟨bb, bo + k, none⟩ = some (.int .i64 x) := (hbl.cell HBB.out).trans hS
                  have HSZ := Lib.hid (Nat.le_trans HSZ.out hbl.size)
                  have HH2 := Lib.hid (has_below HH2.out HP2.out hbl)
                  have HLN := Lib.hid (HLN.out.trans hbl)
                  have HLT := Lib.hid (has_grown (q := g40) HLT.out hgr rfl (by have := Hg40.out; have := Hg49.out; omega))
                  have HQN := Lib.hid hnl
                  refine hK _ _ hS ?_
                  clear ho hgr hbl hnl
                  intro wq' hwq
                  subst hwq
                  clear hK
                  (try simp only [Act.put, List.setIfInBounds_toArray, List.set_cons_zero, List.set_cons_succ])
                  refine wpAnyK_all (rs := [10]) (by kernel_rfl) (by simp) (fun i hi => ?_)
                  simp only [List.mem_cons, List.not_mem_nil, or_false] at hi
                  subst hi
                  refine stepK (o := { dst := some 50, op := _, type := _, pos := _, after := _, guard := _ }) rfl (fun K hK => ?_)
                  refine step_append_n rfl (.tmp 44) (.tmp 49) 24 rfl W0.heap.size 3 _ 1 8 Tryz.underlying24 info_z rfl (by decide) _ (j) (zin (L.take j)) rfl HO44.out (some ⟨g49, 0, none⟩) (1) (1) ([.int .i64 x]) rfl HLT.out rfl (fun h => by cases h) (by simp [Value.oneCell']) (by unfold maxLen; omega) (by omega) HSZ.out ?_
                  rintro RA Rc v5 ho hgr hbl hnl
                  have HO50 := Lib.hid ho
                  replace hS : v5.cell? ⟨bb, bo + k, none⟩ = some (.int .i64 x) := (hbl.cell HBB.out).trans hS
                  have HSZ := Lib.hid (Nat.le_trans HSZ.out hbl.size)
                  have HH2 := Lib.hid (has_below HH2.out HP2.out hbl)
                  have HLN := Lib.hid (HLN.out.trans hbl)
                  have HRN := Lib.hid hnl
                  refine hK _ _ hS ?_
                  clear ho hgr hbl hnl
                  intro wq' hwq
                  subst hwq
                  clear hK
                  (try simp only [Act.put, List.setIfInBounds_toArray, List.set_cons_zero, List.set_cons_succ])
                  refine wpAnyK_all (rs := [14]) (by kernel_rfl) (by simp) (fun i hi => ?_)
                  simp only [List.mem_cons, List.not_mem_nil, or_false] at hi
                  subst hi
                  refine stepK (o := { dst := some 54, op := _, type := _, pos := _, after := _, guard := _ }) rfl (fun K hK => ?_)
                  refine step_append_n rfl (.tmp 50) (.tmp 53) 24 rfl W0.heap.size 3 _ 1 8 Tryz.underlying24 info_z rfl (by decide) _ (j + 1) (zin (L.take j) ++ [Value.int .i64 x]) rfl HO50.out (some ⟨pb, po + j, none⟩ : Option Addr) (pn - j) (pc - j) (zin (L.drop j)) rfl HH2.out (by rw [zin_length]; exact HDL.out) HN2x.out (zin_one _) (by unfold maxLen; omega) (by omega) HSZ.out ?_
                  rintro TA Tc v6 ho hgr hbl hnl
                  have HO54 := Lib.hid ho
                  replace hS : v6.cell? ⟨bb, bo + k, none⟩ = some (.int .i64 x) := (hbl.cell HBB.out).trans hS
                  have HSZ := Lib.hid (Nat.le_trans HSZ.out hbl.size)
                  have HH2 := Lib.hid (has_below HH2.out HP2.out hbl)
                  have HLN := Lib.hid (HLN.out.trans hbl)
                  have HTN := Lib.hid hnl
                  refine hK _ _ hS ?_
                  clear ho hgr hbl hnl
                  intro wq' hwq
                  subst hwq
                  clear hK
                  (try simp only [Act.put, List.setIfInBounds_toArray, List.set_cons_zero, List.set_cons_succ])
                  refine wpAnyK_take (fun _ => rfl) (fun _ _ _ h k => h.trans k) (fun _ _ h k => k ▸ h) (i := 15) (oi := { dst := some 5, op := _, type := _, pos := _, after := _, guard := _ }) (v := ?_) rfl (by kernel_rfl) (by kernel_rfl) (by kernel_rfl) (fun _ _ _ h => h) (Or.inl (Or.inl ⟨by rfl, ?_⟩)) hS ?_
                  rotate_left
                  focus ((intro w hSw; (try dsimp only at hSw); go_simp); (try with_reducible rfl))
                  intro wq' hwq
                  subst hwq
                  (try simp only [Act.put, List.setIfInBounds_toArray, List.set_cons_zero, List.set_cons_succ])
                  refine wpAnyK_done (by kernel_rfl) ?_ _
                  obtain ⟨tn, htn⟩ : ∃ tn, j + 1 + (pn - j) = tn := ⟨_, rfl⟩
                  rw [htn] at HO54 ⊢
                  have HOF := Lib.hid (show v6.ownsRow w.heap.size 3 1 (.slice TA tn Tc) tn (zin (joinR a (b.take (k + 1)))) from by
                    have h := own_mono HO54.out HWS.out
                    rw [HT2.out, ← HC.out]
                    simpa [zin] using h)
                  have HOL := Lib.hid (show tn = (joinR a (b.take (k + 1))).length from by
                    have h := HOF.out.1
                    rw [zin_length] at h; omega)
                  have HLF := Lib.hid (show Later w v6 from Later.of ((HLAT.out.trans lW0).below.trans (HLN.out.mono HWS.out)))
                  clear hS htn lW0
                  go_wp2_with fail
                  go_roundw
                  all_goals first
                    | exact JnI.mk _ (k + 1) _ _ _ (by go_num) hkr HOL.out HOF.out HTN.out HLF.out
                    | (simp [intOf]; omega)
              · refine stepK (o := { dst := some 49, op := _, type := _, pos := _, after := _, guard := _ }) rfl (fun K hK => ?_)
                go_simp
                obtain ⟨g49, hg49⟩ : ∃ x, W0.heap.size = x := ⟨_, rfl⟩
                obtain ⟨v1, hv1⟩ : ∃ y : World, W0.alloc (.cells #[.int .i64 x] 3) = y := ⟨_, rfl⟩
                have lv1 : Later W0 v1 := hv1 ▸ Later.new _ _
                have Hg49 := Lib.hid (show W0.heap.size ≤ g49 ∧ g49 < v1.heap.size from ⟨Nat.le_of_eq hg49, by rw [← hv1, ← hg49]; simp⟩)
                have HLT := Lib.hid (show Has v1 (some ⟨g49, 0, none⟩) [.int .i64 x] from hv1 ▸ (Blk.new W0 [Value.int .i64 x].toArray 3 g49 hg49.symm).has)
                try rw [hg49]
                rw [hv1]
                replace hS := lv1.cell hS
                have HSZO := HSZ
                have HSZ := Lib.hid (Nat.le_trans HSZ.out lv1.size)
                have HH1 := Lib.hid (HH1.out.later lv1)
                have HH2 := Lib.hid (HH2.out.later lv1)
                have HLN := Lib.hid (HLN.out.trans (lv1.below.mono HSZO.out))
                refine hK _ _ hS ?_
                clear hv1 hg49 HSZO
                intro wq' hwq
                subst hwq
                clear hK
                (try simp only [Act.put, List.setIfInBounds_toArray, List.set_cons_zero, List.set_cons_succ])
                refine wpAnyK_all (rs := [0]) (by kernel_rfl) (by simp) (fun i hi => ?_)
                simp only [List.mem_cons, List.not_mem_nil, or_false] at hi
                subst hi
                refine stepK (o := { dst := some 40, op := _, type := _, pos := _, after := _, guard := _ }) rfl (fun K hK => ?_)
                go_simp
                obtain ⟨g40, hg40⟩ : ∃ x, v1.heap.size = x := ⟨_, rfl⟩
                obtain ⟨v2, hv2⟩ : ∃ y : World, v1.alloc (.cells #[] 3) = y := ⟨_, rfl⟩
                have lv2 : Later v1 v2 := hv2 ▸ Later.new _ _
                have Hg40 := Lib.hid (show v1.heap.size ≤ g40 ∧ g40 < v2.heap.size from ⟨Nat.le_of_eq hg40, by rw [← hv2, ← hg40]; simp⟩)
                have HO40 := Lib.hid (show v2.ownsRow W0.heap.size 3 1 (.slice (some ⟨g40, 0, none⟩) 0 0) 0 [] from hg40 ▸ hv2 ▸ own_empty v1 W0.heap.size 3 1 HSZ.out)
                have HLT := Lib.hid (HLT.out.later lv2)
                try rw [hg40]
                rw [hv2]
                replace hS := lv2.cell hS
                have HSZO := HSZ
                have HSZ := Lib.hid (Nat.le_trans HSZ.out lv2.size)
                have HH1 := Lib.hid (HH1.out.later lv2)
                have HH2 := Lib.hid (HH2.out.later lv2)
                have HLN := Lib.hid (HLN.out.trans (lv2.below.mono HSZO.out))
                refine hK _ _ hS ?_
                clear hv2 hg40 HSZO
                intro wq' hwq
                subst hwq
                clear hK
                (try simp only [Act.put, List.setIfInBounds_toArray, List.set_cons_zero, List.set_cons_succ])
                refine wpAnyK_all (rs := [4]) (by kernel_rfl) (by simp) (fun i hi => ?_)
                simp only [List.mem_cons, List.not_mem_nil, or_false] at hi
                subst hi
                refine stepK (o := { dst := some 44, op := _, type := _, pos := _, after := _, guard := _ }) rfl (fun K hK => ?_)
                refine step_append_n rfl (.tmp 40) (.tmp 43) 24 rfl W0.heap.size 3 _ 1 8 Tryz.underlying24 info_z rfl (by decide) _ (0) ([]) rfl HO40.out (some ⟨pb, po, none⟩ : Option Addr) (j) (pc) (zin (L.take j)) rfl HH1.out (by rw [zin_length]; exact HTL.out) HN1.out (zin_one _) (by unfold maxLen; omega) (by omega) HSZ.out ?_
                rintro QA Qc v4 ho hgr hbl hnl
                rw [Nat.zero_add, List.nil_append] at ho
                rw [Nat.zero_add]
                have HO44 := Lib.hid ho
                replace hS : v4.cell? ⟨bb, bo + k, none⟩ = some (.int .i64 x) := (hbl.cell HBB.out).trans hS
                have HSZ := Lib.hid (Nat.le_trans HSZ.out hbl.size)
                have HH2 := Lib.hid (has_below HH2.out HP2.out hbl)
                have HLN := Lib.hid (HLN.out.trans hbl)
                have HLT := Lib.hid (has_grown (q := g40) HLT.out hgr rfl (by have := Hg40.out; have := Hg49.out; omega))
                have HQN := Lib.hid hnl
                refine hK _ _ hS ?_
                clear ho hgr hbl hnl
                intro wq' hwq
                subst hwq
                clear hK
                (try simp only [Act.put, List.setIfInBounds_toArray, List.set_cons_zero, List.set_cons_succ])
                refine wpAnyK_all (rs := [10]) (by kernel_rfl) (by simp) (fun i hi => ?_)
                simp only [List.mem_cons, List.not_mem_nil, or_false] at hi
                subst hi
                refine stepK (o := { dst := some 50, op := _, type := _, pos := _, after := _, guard := _ }) rfl (fun K hK => ?_)
                refine step_append_n rfl (.tmp 44) (.tmp 49) 24 rfl W0.heap.size 3 _ 1 8 Tryz.underlying24 info_z rfl (by decide) _ (j) (zin (L.take j)) rfl HO44.out (some ⟨g49, 0, none⟩) (1) (1) ([.int .i64 x]) rfl HLT.out rfl (fun h => by cases h) (by simp [Value.oneCell']) (by unfold maxLen; omega) (by omega) HSZ.out ?_
                rintro RA Rc v5 ho hgr hbl hnl
                have HO50 := Lib.hid ho
                replace hS : v5.cell? ⟨bb, bo + k, none⟩ = some (.int .i64 x) := (hbl.cell HBB.out).trans hS
                have HSZ := Lib.hid (Nat.le_trans HSZ.out hbl.size)
                have HH2 := Lib.hid (has_below HH2.out HP2.out hbl)
                have HLN := Lib.hid (HLN.out.trans hbl)
                have HRN := Lib.hid hnl
                refine hK _ _ hS ?_
                clear ho hgr hbl hnl
                intro wq' hwq
                subst hwq
                clear hK
                (try simp only [Act.put, List.setIfInBounds_toArray, List.set_cons_zero, List.set_cons_succ])
                refine wpAnyK_all (rs := [14]) (by kernel_rfl) (by simp) (fun i hi => ?_)
                simp only [List.mem_cons, List.not_mem_nil, or_false] at hi
                subst hi
                refine stepK (o := { dst := some 54, op := _, type := _, pos := _, after := _, guard := _ }) rfl (fun K hK => ?_)
                refine step_append_n rfl (.tmp 50) (.tmp 53) 24 rfl W0.heap.size 3 _ 1 8 Tryz.underlying24 info_z rfl (by decide) _ (j + 1) (zin (L.take j) ++ [Value.int .i64 x]) rfl HO50.out (some ⟨pb, po + j, none⟩ : Option Addr) (pn - j) (pc - j) (zin (L.drop j)) rfl HH2.out (by rw [zin_length]; exact HDL.out) HN2x.out (zin_one _) (by unfold maxLen; omega) (by omega) HSZ.out ?_
                rintro TA Tc v6 ho hgr hbl hnl
                have HO54 := Lib.hid ho
                replace hS : v6.cell? ⟨bb, bo + k, none⟩ = some (.int .i64 x) := (hbl.cell HBB.out).trans hS
                have HSZ := Lib.hid (Nat.le_trans HSZ.out hbl.size)
                have HH2 := Lib.hid (has_below HH2.out HP2.out hbl)
                have HLN := Lib.hid (HLN.out.trans hbl)
                have HTN := Lib.hid hnl
                refine hK _ _ hS ?_
                clear ho hgr hbl hnl
                intro wq' hwq
                subst hwq
                clear hK
                (try simp only [Act.put, List.setIfInBounds_toArray, List.set_cons_zero, List.set_cons_succ])
                refine wpAnyK_take (fun _ => rfl) (fun _ _ _ h k => h.trans k) (fun _ _ h k => k ▸ h) (i := 15) (oi := { dst := some 5, op := _, type := _, pos := _, after := _, guard := _ }) (v := ?_) rfl (by kernel_rfl) (by kernel_rfl) (by kernel_rfl) (fun _ _ _ h => h) (Or.inl (Or.inl ⟨by rfl, ?_⟩)) hS ?_
                rotate_left
                focus ((intro w hSw; (try dsimp only at hSw); go_simp); (try with_reducible rfl))
                intro wq' hwq
                subst hwq
                (try simp only [Act.put, List.setIfInBounds_toArray, List.set_cons_zero, List.set_cons_succ])
                refine wpAnyK_done (by kernel_rfl) ?_ _
                obtain ⟨tn, htn⟩ : ∃ tn, j + 1 + (pn - j) = tn := ⟨_, rfl⟩
                rw [htn] at HO54 ⊢
                have HOF := Lib.hid (show v6.ownsRow w.heap.size 3 1 (.slice TA tn Tc) tn (zin (joinR a (b.take (k + 1)))) from by
                  have h := own_mono HO54.out HWS.out
                  rw [HT2.out, ← HC.out]
                  simpa [zin] using h)
                have HOL := Lib.hid (show tn = (joinR a (b.take (k + 1))).length from by
                  have h := HOF.out.1
                  rw [zin_length] at h; omega)
                have HLF := Lib.hid (show Later w v6 from Later.of ((HLAT.out.trans lW0).below.trans (HLN.out.mono HWS.out)))
                clear hS htn lW0
                go_wp2_with fail
                go_roundw
                all_goals first
                  | exact JnI.mk _ (k + 1) _ _ _ (by go_num) hkr HOL.out HOF.out HTN.out HLF.out
                  | (simp [intOf]; omega)
          · have hjn : j = pn := by omega
            have HC := Lib.hid (cut_end (by have := HPN.out; omega : j ≤ L.length) HALL.out (fun h => absurd h (by have := HPN.out; omega)))
            have HLZ := Lib.hid lz
            have hjd : decide ((j : Int) < (pn : Int)) = false := by simp; omega
            have hji : ¬ (j : Int) < (pn : Int) := by omega
            clear lz ck hjp hji hjd
            subst hjn
            obtain hPA | ⟨pb, hPA⟩ : P = none ∨ ∃ g, P = some ⟨g, 0, none⟩ := by
              rcases HOWN.out.2 with ⟨hv, _⟩ | ⟨g, cap, cur, hv, _⟩
              · injection hv with e1; exact .inl e1
              · injection hv with e1; exact .inr ⟨g, e1⟩
            · subst hPA
              have hpc := HNIL.out rfl
              subst hpc
              have hp0 : j = 0 := by have := HCAP.out; omega
              subst hp0
              go_wp2_with fail
              go_quiet (fail)
              go_wp2_with fail
              obtain ⟨wv, hwv⟩ : ∃ x, wr.drewN nq = x := ⟨_, rfl⟩
              rw [hwv]
              have lwv : Later wr wv := hwv ▸ (Later.refl wr).drewN _
              refine wp_region_K (S := fun W : World => W.cell? ⟨bb, bo + k, none⟩ = some (.int .i64 x)) (R := fun a b => a = b) (fun _ => rfl) (by kernel_rfl) ?_
              obtain ⟨W0, hW0⟩ : ∃ x, wv.drew = x := ⟨_, rfl⟩
              rw [hW0]
              have lW0 : Later ws W0 := HLZ.out.trans (hW0 ▸ lwv.drew)
              have hS : (fun W : World => W.cell? ⟨bb, bo + k, none⟩ = some (.int .i64 x)) W0 := (hW0 ▸ lwv.drew : Later wr W0).cell ck2
              dsimp only at hS
              clear hwv hW0 lwv ck2
              have HSZ := Lib.hid (Nat.le_refl W0.heap.size)
              have HBB := Lib.hid (show bb < W0.heap.size from Nat.lt_of_lt_of_le HKB.out lW0.size)
              have HWS := Lib.hid (show w.heap.size ≤ W0.heap.size from (HLAT.out.trans lW0).size)
              have HLN := Lib.hid (Below.refl W0.heap.size W0)
              have HTL := Lib.hid (show (L.take 0).length = 0 * 1 by rw [List.length_take]; have := HPN.out; omega)
              have HDL := Lib.hid (show (L.drop 0).length = 0 * 1 by rw [List.length_drop]; have := HPN.out; omega)
              
              have HH1 := Lib.hid (show Has W0 (none : Option Addr) (zin (L.take 0)) from by have h := (HHL.out.later lW0).ztake 0; exact h)
              have HH2 := Lib.hid (show Has W0 (none : Option Addr) (zin (L.drop 0)) from (.inl (by rw [List.drop_eq_nil_of_le (by have := HPN.out; omega)]; rfl)))
              have HP2 := Lib.hid (show ∀ b off, (none : Option Addr) = some ⟨b, off, none⟩ → b < W0.heap.size from fun b off e => by cases e)
              have HN1 := Lib.hid (show (none : Option Addr) = none → 0 = 0 from fun _ => rfl)
              have HN2x := Lib.hid (show (none : Option Addr) = none → 0 = 0 from fun _ => rfl)
              refine wpAnyK_take (fun _ => rfl) (fun _ _ _ h k => h.trans k) (fun _ _ h k => k ▸ h) (i := 1) (oi := { dst := some 41, op := _, type := _, pos := _, after := _, guard := _ }) (v := ?_) rfl (by kernel_rfl) (by kernel_rfl) (by kernel_rfl) (fun _ _ _ h => h) (Or.inl (Or.inl ⟨by rfl, ?_⟩)) hS ?_
              rotate_left
              focus ((intro w hSw; (try dsimp only at hSw); go_simp); (try with_reducible rfl))
              intro wq' hwq
              subst hwq
              (try simp only [Act.put, List.setIfInBounds_toArray, List.set_cons_zero, List.set_cons_succ])
              refine wpAnyK_take (fun _ => rfl) (fun _ _ _ h k => h.trans k) (fun _ _ h k => k ▸ h) (i := 2) (oi := { dst := some 42, op := _, type := _, pos := _, after := _, guard := _ }) (v := ?_) rfl (by kernel_rfl) (by kernel_rfl) (by kernel_rfl) (fun _ _ _ h => h) (Or.inl (Or.inl ⟨by rfl, ?_⟩)) hS ?_
              rotate_left
              focus ((intro w hSw; (try dsimp only at hSw); go_simp); (try with_reducible rfl))
              intro wq' hwq
              subst hwq
              (try simp only [Act.put, List.setIfInBounds_toArray, List.set_cons_zero, List.set_cons_succ])
              refine wpAnyK_take (fun _ => rfl) (fun _ _ _ h k => h.trans k) (fun _ _ h k => k ▸ h) (i := 3) (oi := { dst := some 43, op := _, type := _, pos := _, after := _, guard := _ }) (v := ?_) rfl (by kernel_rfl) (by kernel_rfl) (by kernel_rfl) (fun _ _ _ h => h) (Or.inl (Or.inl ⟨by rfl, ?_⟩)) hS ?_
              rotate_left
              focus ((intro w hSw; (try dsimp only at hSw); go_simp); (try with_reducible rfl))
              intro wq' hwq
              subst hwq
              (try simp only [Act.put, List.setIfInBounds_toArray, List.set_cons_zero, List.set_cons_succ])
              refine wpAnyK_take (fun _ => rfl) (fun _ _ _ h k => h.trans k) (fun _ _ h k => k ▸ h) (i := 5) (oi := { dst := some 45, op := _, type := _, pos := _, after := _, guard := _ }) (v := ?_) rfl (by kernel_rfl) (by kernel_rfl) (by kernel_rfl) (fun _ _ _ h => h) (Or.inl (Or.inl ⟨by rfl, ?_⟩)) hS ?_
              rotate_left
              focus ((intro w hSw; (try dsimp only at hSw); go_simp); (try with_reducible rfl))
              intro wq' hwq
              subst hwq
              (try simp only [Act.put, List.setIfInBounds_toArray, List.set_cons_zero, List.set_cons_succ])
              refine wpAnyK_take (fun _ => rfl) (fun _ _ _ h k => h.trans k) (fun _ _ h k => k ▸ h) (i := 6) (oi := { dst := some 46, op := _, type := _, pos := _, after := _, guard := _ }) (v := ?_) rfl (by kernel_rfl) (by kernel_rfl) (by kernel_rfl) (fun _ _ _ h => h) (Or.inl (Or.inl ⟨by rfl, ?_⟩)) hS ?_
              rotate_left
              focus ((intro w hSw; (try dsimp only at hSw); go_simp); (try with_reducible rfl))
              intro wq' hwq
              subst hwq
              (try simp only [Act.put, List.setIfInBounds_toArray, List.set_cons_zero, List.set_cons_succ])
              refine wpAnyK_take (fun _ => rfl) (fun _ _ _ h k => h.trans k) (fun _ _ h k => k ▸ h) (i := 7) (oi := { dst := some 47, op := _, type := _, pos := _, after := _, guard := _ }) (v := ?_) rfl (by kernel_rfl) (by kernel_rfl) (by kernel_rfl) (fun _ _ _ h => h) (Or.inl (Or.inl ⟨by rfl, ?_⟩)) hS ?_
              rotate_left
              focus ((intro w hSw; (try dsimp only at hSw); go_simp); (try with_reducible rfl))
              intro wq' hwq
              subst hwq
              (try simp only [Act.put, List.setIfInBounds_toArray, List.set_cons_zero, List.set_cons_succ])
              refine wpAnyK_take (fun _ => rfl) (fun _ _ _ h k => h.trans k) (fun _ _ h k => k ▸ h) (i := 8) (oi := { dst := some 48, op := _, type := _, pos := _, after := _, guard := _ }) (v := ?_) rfl (by kernel_rfl) (by kernel_rfl) (by kernel_rfl) (fun _ _ _ h => h) (Or.inl (Or.inl ⟨by rfl, ?_⟩)) hS ?_
              rotate_left
              focus ((intro w hSw; (try dsimp only at hSw); go_simp); (try with_reducible rfl))
              intro wq' hwq
              subst hwq
              (try simp only [Act.put, List.setIfInBounds_toArray, List.set_cons_zero, List.set_cons_succ])
              refine wpAnyK_take (fun _ => rfl) (fun _ _ _ h k => h.trans k) (fun _ _ h k => k ▸ h) (i := 11) (oi := { dst := some 51, op := _, type := _, pos := _, after := _, guard := _ }) (v := ?_) rfl (by kernel_rfl) (by kernel_rfl) (by kernel_rfl) (fun _ _ _ h => h) (Or.inl (Or.inl ⟨by rfl, ?_⟩)) hS ?_
              rotate_left
              focus ((intro w hSw; (try dsimp only at hSw); go_simp); (try with_reducible rfl))
              intro wq' hwq
              subst hwq
              (try simp only [Act.put, List.setIfInBounds_toArray, List.set_cons_zero, List.set_cons_succ])
              refine wpAnyK_take (fun _ => rfl) (fun _ _ _ h k => h.trans k) (fun _ _ h k => k ▸ h) (i := 12) (oi := { dst := some 52, op := _, type := _, pos := _, after := _, guard := _ }) (v := ?_) rfl (by kernel_rfl) (by kernel_rfl) (by kernel_rfl) (fun _ _ _ h => h) (Or.inl (Or.inl ⟨by rfl, ?_⟩)) hS ?_
              rotate_left
              focus ((intro w hSw; (try dsimp only at hSw); go_simp); (try with_reducible rfl))
              intro wq' hwq
              subst hwq
              (try simp only [Act.put, List.setIfInBounds_toArray, List.set_cons_zero, List.set_cons_succ])
              refine wpAnyK_take (fun _ => rfl) (fun _ _ _ h k => h.trans k) (fun _ _ h k => k ▸ h) (i := 13) (oi := { dst := some 53, op := _, type := _, pos := _, after := _, guard := _ }) (v := ?_) rfl (by kernel_rfl) (by kernel_rfl) (by kernel_rfl) (fun _ _ _ h => h) (Or.inl (Or.inl ⟨by rfl, ?_⟩)) hS ?_
              rotate_left
              focus ((intro w hSw; (try dsimp only at hSw); go_simp); (try with_reducible rfl))
              intro wq' hwq
              subst hwq
              (try simp only [Act.put, List.setIfInBounds_toArray, List.set_cons_zero, List.set_cons_succ])
              refine wpAnyK_all (rs := [0, 9]) (by kernel_rfl) (by simp) (fun i hi => ?_)
              simp only [List.mem_cons, List.not_mem_nil, or_false] at hi
              rcases hi with rfl | rfl
              · refine stepK (o := { dst := some 40, op := _, type := _, pos := _, after := _, guard := _ }) rfl (fun K hK => ?_)
                go_simp
                obtain ⟨g40, hg40⟩ : ∃ x, W0.heap.size = x := ⟨_, rfl⟩
                obtain ⟨v1, hv1⟩ : ∃ y : World, W0.alloc (.cells #[] 3) = y := ⟨_, rfl⟩
                have lv1 : Later W0 v1 := hv1 ▸ Later.new _ _
                have Hg40 := Lib.hid (show W0.heap.size ≤ g40 ∧ g40 < v1.heap.size from ⟨Nat.le_of_eq hg40, by rw [← hv1, ← hg40]; simp⟩)
                have HO40 := Lib.hid (show v1.ownsRow W0.heap.size 3 1 (.slice (some ⟨g40, 0, none⟩) 0 0) 0 [] from hg40 ▸ hv1 ▸ own_empty W0 W0.heap.size 3 1 HSZ.out)
                try rw [hg40]
                rw [hv1]
                replace hS := lv1.cell hS
                have HSZO := HSZ
                have HSZ := Lib.hid (Nat.le_trans HSZ.out lv1.size)
                have HH1 := Lib.hid (HH1.out.later lv1)
                have HH2 := Lib.hid (HH2.out.later lv1)
                have HLN := Lib.hid (HLN.out.trans (lv1.below.mono HSZO.out))
                refine hK _ _ hS ?_
                clear hv1 hg40 HSZO
                intro wq' hwq
                subst hwq
                clear hK
                (try simp only [Act.put, List.setIfInBounds_toArray, List.set_cons_zero, List.set_cons_succ])
                refine wpAnyK_all (rs := [4, 9]) (by kernel_rfl) (by simp) (fun i hi => ?_)
                simp only [List.mem_cons, List.not_mem_nil, or_false] at hi
                rcases hi with rfl | rfl
                · refine stepK (o := { dst := some 44, op := _, type := _, pos := _, after := _, guard := _ }) rfl (fun K hK => ?_)
                  refine step_append_n rfl (.tmp 40) (.tmp 43) 24 rfl W0.heap.size 3 _ 1 8 Tryz.underlying24 info_z rfl (by decide) _ (0) ([]) rfl HO40.out (none : Option Addr) (0) (0) (zin (L.take 0)) rfl HH1.out (by rw [zin_length]; exact HTL.out) HN1.out (zin_one _) (by unfold maxLen; omega) (by omega) HSZ.out ?_
                  rintro QA Qc v2 ho hgr hbl hnl
                  rw [Nat.zero_add, List.nil_append] at ho
                  rw [Nat.zero_add]
                  have HO44 := Lib.hid ho
                  replace hS : v2.cell? ⟨bb, bo + k, none⟩ = some (.int .i64 x) := (hbl.cell HBB.out).trans hS
                  have HSZ := Lib.hid (Nat.le_trans HSZ.out hbl.size)
                  have HH2 := Lib.hid (has_below HH2.out HP2.out hbl)
                  have HLN := Lib.hid (HLN.out.trans hbl)
                  have HQN := Lib.hid hnl
                  refine hK _ _ hS ?_
                  clear ho hgr hbl hnl
                  intro wq' hwq
                  subst hwq
                  clear hK
                  (try simp only [Act.put, List.setIfInBounds_toArray, List.set_cons_zero, List.set_cons_succ])
                  refine wpAnyK_all (rs := [9]) (by kernel_rfl) (by simp) (fun i hi => ?_)
                  simp only [List.mem_cons, List.not_mem_nil, or_false] at hi
                  subst hi
                  refine stepK (o := { dst := some 49, op := _, type := _, pos := _, after := _, guard := _ }) rfl (fun K hK => ?_)
                  go_simp
                  obtain ⟨g49, hg49⟩ : ∃ x, v2.heap.size = x := ⟨_, rfl⟩
                  obtain ⟨v4, hv4⟩ : ∃ y : World, v2.alloc (.cells #[.int .i64 x] 3) = y := ⟨_, rfl⟩
                  have lv4 : Later v2 v4 := hv4 ▸ Later.new _ _
                  have Hg49 := Lib.hid (show v2.heap.size ≤ g49 ∧ g49 < v4.heap.size from ⟨Nat.le_of_eq hg49, by rw [← hv4, ← hg49]; simp⟩)
                  have HLT := Lib.hid (show Has v4 (some ⟨g49, 0, none⟩) [.int .i64 x] from hv4 ▸ (Blk.new v2 [Value.int .i64 x].toArray 3 g49 hg49.symm).has)
                  have HO44 := Lib.hid (own_later HO44.out lv4)
                  try rw [hg49]
                  rw [hv4]
                  replace hS := lv4.cell hS
                  have HSZO := HSZ
                  have HSZ := Lib.hid (Nat.le_trans HSZ.out lv4.size)
                  have HH2 := Lib.hid (HH2.out.later lv4)
                  have HLN := Lib.hid (HLN.out.trans (lv4.below.mono HSZO.out))
                  refine hK _ _ hS ?_
                  clear hv4 hg49 HSZO
                  intro wq' hwq
                  subst hwq
                  clear hK
                  (try simp only [Act.put, List.setIfInBounds_toArray, List.set_cons_zero, List.set_cons_succ])
                  refine wpAnyK_all (rs := [10]) (by kernel_rfl) (by simp) (fun i hi => ?_)
                  simp only [List.mem_cons, List.not_mem_nil, or_false] at hi
                  subst hi
                  refine stepK (o := { dst := some 50, op := _, type := _, pos := _, after := _, guard := _ }) rfl (fun K hK => ?_)
                  refine step_append_n rfl (.tmp 44) (.tmp 49) 24 rfl W0.heap.size 3 _ 1 8 Tryz.underlying24 info_z rfl (by decide) _ (0) (zin (L.take 0)) rfl HO44.out (some ⟨g49, 0, none⟩) (1) (1) ([.int .i64 x]) rfl HLT.out rfl (fun h => by cases h) (by simp [Value.oneCell']) (by unfold maxLen; omega) (by omega) HSZ.out ?_
                  rintro RA Rc v5 ho hgr hbl hnl
                  have HO50 := Lib.hid ho
                  replace hS : v5.cell? ⟨bb, bo + k, none⟩ = some (.int .i64 x) := (hbl.cell HBB.out).trans hS
                  have HSZ := Lib.hid (Nat.le_trans HSZ.out hbl.size)
                  have HH2 := Lib.hid (has_below HH2.out HP2.out hbl)
                  have HLN := Lib.hid (HLN.out.trans hbl)
                  have HRN := Lib.hid hnl
                  refine hK _ _ hS ?_
                  clear ho hgr hbl hnl
                  intro wq' hwq
                  subst hwq
                  clear hK
                  (try simp only [Act.put, List.setIfInBounds_toArray, List.set_cons_zero, List.set_cons_succ])
                  refine wpAnyK_all (rs := [14]) (by kernel_rfl) (by simp) (fun i hi => ?_)
                  simp only [List.mem_cons, List.not_mem_nil, or_false] at hi
                  subst hi
                  refine stepK (o := { dst := some 54, op := _, type := _, pos := _, after := _, guard := _ }) rfl (fun K hK => ?_)
                  refine step_append_n rfl (.tmp 50) (.tmp 53) 24 rfl W0.heap.size 3 _ 1 8 Tryz.underlying24 info_z rfl (by decide) _ (0 + 1) (zin (L.take 0) ++ [Value.int .i64 x]) rfl HO50.out (none : Option Addr) 0 (0) (zin (L.drop 0)) rfl HH2.out (by rw [zin_length]; exact HDL.out) HN2x.out (zin_one _) (by unfold maxLen; omega) (by omega) HSZ.out ?_
                  rintro TA Tc v6 ho hgr hbl hnl
                  have HO54 := Lib.hid ho
                  replace hS : v6.cell? ⟨bb, bo + k, none⟩ = some (.int .i64 x) := (hbl.cell HBB.out).trans hS
                  have HSZ := Lib.hid (Nat.le_trans HSZ.out hbl.size)
                  have HH2 := Lib.hid (has_below HH2.out HP2.out hbl)
                  have HLN := Lib.hid (HLN.out.trans hbl)
                  have HTN := Lib.hid hnl
                  refine hK _ _ hS ?_
                  clear ho hgr hbl hnl
                  intro wq' hwq
                  subst hwq
                  clear hK
                  (try simp only [Act.put, List.setIfInBounds_toArray, List.set_cons_zero, List.set_cons_succ])
                  refine wpAnyK_take (fun _ => rfl) (fun _ _ _ h k => h.trans k) (fun _ _ h k => k ▸ h) (i := 15) (oi := { dst := some 5, op := _, type := _, pos := _, after := _, guard := _ }) (v := ?_) rfl (by kernel_rfl) (by kernel_rfl) (by kernel_rfl) (fun _ _ _ h => h) (Or.inl (Or.inl ⟨by rfl, ?_⟩)) hS ?_
                  rotate_left
                  focus ((intro w hSw; (try dsimp only at hSw); go_simp); (try with_reducible rfl))
                  intro wq' hwq
                  subst hwq
                  (try simp only [Act.put, List.setIfInBounds_toArray, List.set_cons_zero, List.set_cons_succ])
                  refine wpAnyK_done (by kernel_rfl) ?_ _
                  obtain ⟨tn, htn⟩ : ∃ tn, 0 + 1 + 0 = tn := ⟨_, rfl⟩
                  rw [htn] at HO54 ⊢
                  have HOF := Lib.hid (show v6.ownsRow w.heap.size 3 1 (.slice TA tn Tc) tn (zin (joinR a (b.take (k + 1)))) from by
                    have h := own_mono HO54.out HWS.out
                    rw [HT2.out, ← HC.out]
                    simpa [zin] using h)
                  have HOL := Lib.hid (show tn = (joinR a (b.take (k + 1))).length from by
                    have h := HOF.out.1
                    rw [zin_length] at h; omega)
                  have HLF := Lib.hid (show Later w v6 from Later.of ((HLAT.out.trans lW0).below.trans (HLN.out.mono HWS.out)))
                  subst htn; clear hS lW0
                  go_wp2_with fail
                  go_roundw
                  all_goals first
                    | exact JnI.mk _ (k + 1) _ _ _ (by go_num) hkr HOL.out HOF.out HTN.out HLF.out
                    | (simp [intOf]; omega)
                · refine stepK (o := { dst := some 49, op := _, type := _, pos := _, after := _, guard := _ }) rfl (fun K hK => ?_)
                  go_simp
                  obtain ⟨g49, hg49⟩ : ∃ x, v1.heap.size = x := ⟨_, rfl⟩
                  obtain ⟨v2, hv2⟩ : ∃ y : World, v1.alloc (.cells #[.int .i64 x] 3) = y := ⟨_, rfl⟩
                  have lv2 : Later v1 v2 := hv2 ▸ Later.new _ _
                  have Hg49 := Lib.hid (show v1.heap.size ≤ g49 ∧ g49 < v2.heap.size from ⟨Nat.le_of_eq hg49, by rw [← hv2, ← hg49]; simp⟩)
                  have HLT := Lib.hid (show Has v2 (some ⟨g49, 0, none⟩) [.int .i64 x] from hv2 ▸ (Blk.new v1 [Value.int .i64 x].toArray 3 g49 hg49.symm).has)
                  have HO40 := Lib.hid (own_later HO40.out lv2)
                  try rw [hg49]
                  rw [hv2]
                  replace hS := lv2.cell hS
                  have HSZO := HSZ
                  have HSZ := Lib.hid (Nat.le_trans HSZ.out lv2.size)
                  have HH1 := Lib.hid (HH1.out.later lv2)
                  have HH2 := Lib.hid (HH2.out.later lv2)
                  have HLN := Lib.hid (HLN.out.trans (lv2.below.mono HSZO.out))
                  refine hK _ _ hS ?_
                  clear hv2 hg49 HSZO
                  intro wq' hwq
                  subst hwq
                  clear hK
                  (try simp only [Act.put, List.setIfInBounds_toArray, List.set_cons_zero, List.set_cons_succ])
                  refine wpAnyK_all (rs := [4]) (by kernel_rfl) (by simp) (fun i hi => ?_)
                  simp only [List.mem_cons, List.not_mem_nil, or_false] at hi
                  subst hi
                  refine stepK (o := { dst := some 44, op := _, type := _, pos := _, after := _, guard := _ }) rfl (fun K hK => ?_)
                  refine step_append_n rfl (.tmp 40) (.tmp 43) 24 rfl W0.heap.size 3 _ 1 8 Tryz.underlying24 info_z rfl (by decide) _ (0) ([]) rfl HO40.out (none : Option Addr) (0) (0) (zin (L.take 0)) rfl HH1.out (by rw [zin_length]; exact HTL.out) HN1.out (zin_one _) (by unfold maxLen; omega) (by omega) HSZ.out ?_
                  rintro QA Qc v4 ho hgr hbl hnl
                  rw [Nat.zero_add, List.nil_append] at ho
                  rw [Nat.zero_add]
                  have HO44 := Lib.hid ho
                  replace hS : v4.cell? ⟨bb, bo + k, none⟩ = some (.int .i64 x) := (hbl.cell HBB.out).trans hS
                  have HSZ := Lib.hid (Nat.le_trans HSZ.out hbl.size)
                  have HH2 := Lib.hid (has_below HH2.out HP2.out hbl)
                  have HLN := Lib.hid (HLN.out.trans hbl)
                  have HLT := Lib.hid (has_grown (q := g40) HLT.out hgr rfl (by have := Hg40.out; have := Hg49.out; omega))
                  have HQN := Lib.hid hnl
                  refine hK _ _ hS ?_
                  clear ho hgr hbl hnl
                  intro wq' hwq
                  subst hwq
                  clear hK
                  (try simp only [Act.put, List.setIfInBounds_toArray, List.set_cons_zero, List.set_cons_succ])
                  refine wpAnyK_all (rs := [10]) (by kernel_rfl) (by simp) (fun i hi => ?_)
                  simp only [List.mem_cons, List.not_mem_nil, or_false] at hi
                  subst hi
                  refine stepK (o := { dst := some 50, op := _, type := _, pos := _, after := _, guard := _ }) rfl (fun K hK => ?_)
                  refine step_append_n rfl (.tmp 44) (.tmp 49) 24 rfl W0.heap.size 3 _ 1 8 Tryz.underlying24 info_z rfl (by decide) _ (0) (zin (L.take 0)) rfl HO44.out (some ⟨g49, 0, none⟩) (1) (1) ([.int .i64 x]) rfl HLT.out rfl (fun h => by cases h) (by simp [Value.oneCell']) (by unfold maxLen; omega) (by omega) HSZ.out ?_
                  rintro RA Rc v5 ho hgr hbl hnl
                  have HO50 := Lib.hid ho
                  replace hS : v5.cell? ⟨bb, bo + k, none⟩ = some (.int .i64 x) := (hbl.cell HBB.out).trans hS
                  have HSZ := Lib.hid (Nat.le_trans HSZ.out hbl.size)
                  have HH2 := Lib.hid (has_below HH2.out HP2.out hbl)
                  have HLN := Lib.hid (HLN.out.trans hbl)
                  have HRN := Lib.hid hnl
                  refine hK _ _ hS ?_
                  clear ho hgr hbl hnl
                  intro wq' hwq
                  subst hwq
                  clear hK
                  (try simp only [Act.put, List.setIfInBounds_toArray, List.set_cons_zero, List.set_cons_succ])
                  refine wpAnyK_all (rs := [14]) (by kernel_rfl) (by simp) (fun i hi => ?_)
                  simp only [List.mem_cons, List.not_mem_nil, or_false] at hi
                  subst hi
                  refine stepK (o := { dst := some 54, op := _, type := _, pos := _, after := _, guard := _ }) rfl (fun K hK => ?_)
                  refine step_append_n rfl (.tmp 50) (.tmp 53) 24 rfl W0.heap.size 3 _ 1 8 Tryz.underlying24 info_z rfl (by decide) _ (0 + 1) (zin (L.take 0) ++ [Value.int .i64 x]) rfl HO50.out (none : Option Addr) 0 (0) (zin (L.drop 0)) rfl HH2.out (by rw [zin_length]; exact HDL.out) HN2x.out (zin_one _) (by unfold maxLen; omega) (by omega) HSZ.out ?_
                  rintro TA Tc v6 ho hgr hbl hnl
                  have HO54 := Lib.hid ho
                  replace hS : v6.cell? ⟨bb, bo + k, none⟩ = some (.int .i64 x) := (hbl.cell HBB.out).trans hS
                  have HSZ := Lib.hid (Nat.le_trans HSZ.out hbl.size)
                  have HH2 := Lib.hid (has_below HH2.out HP2.out hbl)
                  have HLN := Lib.hid (HLN.out.trans hbl)
                  have HTN := Lib.hid hnl
                  refine hK _ _ hS ?_
                  clear ho hgr hbl hnl
                  intro wq' hwq
                  subst hwq
                  clear hK
                  (try simp only [Act.put, List.setIfInBounds_toArray, List.set_cons_zero, List.set_cons_succ])
                  refine wpAnyK_take (fun _ => rfl) (fun _ _ _ h k => h.trans k) (fun _ _ h k => k ▸ h) (i := 15) (oi := { dst := some 5, op := _, type := _, pos := _, after := _, guard := _ }) (v := ?_) rfl (by kernel_rfl) (by kernel_rfl) (by kernel_rfl) (fun _ _ _ h => h) (Or.inl (Or.inl ⟨by rfl, ?_⟩)) hS ?_
                  rotate_left
                  focus ((intro w hSw; (try dsimp only at hSw); go_simp); (try with_reducible rfl))
                  intro wq' hwq
                  subst hwq
                  (try simp only [Act.put, List.setIfInBounds_toArray, List.set_cons_zero, List.set_cons_succ])
                  refine wpAnyK_done (by kernel_rfl) ?_ _
                  obtain ⟨tn, htn⟩ : ∃ tn, 0 + 1 + 0 = tn := ⟨_, rfl⟩
                  rw [htn] at HO54 ⊢
                  have HOF := Lib.hid (show v6.ownsRow w.heap.size 3 1 (.slice TA tn Tc) tn (zin (joinR a (b.take (k + 1)))) from by
                    have h := own_mono HO54.out HWS.out
                    rw [HT2.out, ← HC.out]
                    simpa [zin] using h)
                  have HOL := Lib.hid (show tn = (joinR a (b.take (k + 1))).length from by
                    have h := HOF.out.1
                    rw [zin_length] at h; omega)
                  have HLF := Lib.hid (show Later w v6 from Later.of ((HLAT.out.trans lW0).below.trans (HLN.out.mono HWS.out)))
                  subst htn; clear hS lW0
                  go_wp2_with fail
                  go_roundw
                  all_goals first
                    | exact JnI.mk _ (k + 1) _ _ _ (by go_num) hkr HOL.out HOF.out HTN.out HLF.out
                    | (simp [intOf]; omega)
              · refine stepK (o := { dst := some 49, op := _, type := _, pos := _, after := _, guard := _ }) rfl (fun K hK => ?_)
                go_simp
                obtain ⟨g49, hg49⟩ : ∃ x, W0.heap.size = x := ⟨_, rfl⟩
                obtain ⟨v1, hv1⟩ : ∃ y : World, W0.alloc (.cells #[.int .i64 x] 3) = y := ⟨_, rfl⟩
                have lv1 : Later W0 v1 := hv1 ▸ Later.new _ _
                have Hg49 := Lib.hid (show W0.heap.size ≤ g49 ∧ g49 < v1.heap.size from ⟨Nat.le_of_eq hg49, by rw [← hv1, ← hg49]; simp⟩)
                have HLT := Lib.hid (show Has v1 (some ⟨g49, 0, none⟩) [.int .i64 x] from hv1 ▸ (Blk.new W0 [Value.int .i64 x].toArray 3 g49 hg49.symm).has)
                try rw [hg49]
                rw [hv1]
                replace hS := lv1.cell hS
                have HSZO := HSZ
                have HSZ := Lib.hid (Nat.le_trans HSZ.out lv1.size)
                have HH1 := Lib.hid (HH1.out.later lv1)
                have HH2 := Lib.hid (HH2.out.later lv1)
                have HLN := Lib.hid (HLN.out.trans (lv1.below.mono HSZO.out))
                refine hK _ _ hS ?_
                clear hv1 hg49 HSZO
                intro wq' hwq
                subst hwq
                clear hK
                (try simp only [Act.put, List.setIfInBounds_toArray, List.set_cons_zero, List.set_cons_succ])
                refine wpAnyK_all (rs := [0]) (by kernel_rfl) (by simp) (fun i hi => ?_)
                simp only [List.mem_cons, List.not_mem_nil, or_false] at hi
                subst hi
                refine stepK (o := { dst := some 40, op := _, type := _, pos := _, after := _, guard := _ }) rfl (fun K hK => ?_)
                go_simp
                obtain ⟨g40, hg40⟩ : ∃ x, v1.heap.size = x := ⟨_, rfl⟩
                obtain ⟨v2, hv2⟩ : ∃ y : World, v1.alloc (.cells #[] 3) = y := ⟨_, rfl⟩
                have lv2 : Later v1 v2 := hv2 ▸ Later.new _ _
                have Hg40 := Lib.hid (show v1.heap.size ≤ g40 ∧ g40 < v2.heap.size from ⟨Nat.le_of_eq hg40, by rw [← hv2, ← hg40]; simp⟩)
                have HO40 := Lib.hid (show v2.ownsRow W0.heap.size 3 1 (.slice (some ⟨g40, 0, none⟩) 0 0) 0 [] from hg40 ▸ hv2 ▸ own_empty v1 W0.heap.size 3 1 HSZ.out)
                have HLT := Lib.hid (HLT.out.later lv2)
                try rw [hg40]
                rw [hv2]
                replace hS := lv2.cell hS
                have HSZO := HSZ
                have HSZ := Lib.hid (Nat.le_trans HSZ.out lv2.size)
                have HH1 := Lib.hid (HH1.out.later lv2)
                have HH2 := Lib.hid (HH2.out.later lv2)
                have HLN := Lib.hid (HLN.out.trans (lv2.below.mono HSZO.out))
                refine hK _ _ hS ?_
                clear hv2 hg40 HSZO
                intro wq' hwq
                subst hwq
                clear hK
                (try simp only [Act.put, List.setIfInBounds_toArray, List.set_cons_zero, List.set_cons_succ])
                refine wpAnyK_all (rs := [4]) (by kernel_rfl) (by simp) (fun i hi => ?_)
                simp only [List.mem_cons, List.not_mem_nil, or_false] at hi
                subst hi
                refine stepK (o := { dst := some 44, op := _, type := _, pos := _, after := _, guard := _ }) rfl (fun K hK => ?_)
                refine step_append_n rfl (.tmp 40) (.tmp 43) 24 rfl W0.heap.size 3 _ 1 8 Tryz.underlying24 info_z rfl (by decide) _ (0) ([]) rfl HO40.out (none : Option Addr) (0) (0) (zin (L.take 0)) rfl HH1.out (by rw [zin_length]; exact HTL.out) HN1.out (zin_one _) (by unfold maxLen; omega) (by omega) HSZ.out ?_
                rintro QA Qc v4 ho hgr hbl hnl
                rw [Nat.zero_add, List.nil_append] at ho
                rw [Nat.zero_add]
                have HO44 := Lib.hid ho
                replace hS : v4.cell? ⟨bb, bo + k, none⟩ = some (.int .i64 x) := (hbl.cell HBB.out).trans hS
                have HSZ := Lib.hid (Nat.le_trans HSZ.out hbl.size)
                have HH2 := Lib.hid (has_below HH2.out HP2.out hbl)
                have HLN := Lib.hid (HLN.out.trans hbl)
                have HLT := Lib.hid (has_grown (q := g40) HLT.out hgr rfl (by have := Hg40.out; have := Hg49.out; omega))
                have HQN := Lib.hid hnl
                refine hK _ _ hS ?_
                clear ho hgr hbl hnl
                intro wq' hwq
                subst hwq
                clear hK
                (try simp only [Act.put, List.setIfInBounds_toArray, List.set_cons_zero, List.set_cons_succ])
                refine wpAnyK_all (rs := [10]) (by kernel_rfl) (by simp) (fun i hi => ?_)
                simp only [List.mem_cons, List.not_mem_nil, or_false] at hi
                subst hi
                refine stepK (o := { dst := some 50, op := _, type := _, pos := _, after := _, guard := _ }) rfl (fun K hK => ?_)
                refine step_append_n rfl (.tmp 44) (.tmp 49) 24 rfl W0.heap.size 3 _ 1 8 Tryz.underlying24 info_z rfl (by decide) _ (0) (zin (L.take 0)) rfl HO44.out (some ⟨g49, 0, none⟩) (1) (1) ([.int .i64 x]) rfl HLT.out rfl (fun h => by cases h) (by simp [Value.oneCell']) (by unfold maxLen; omega) (by omega) HSZ.out ?_
                rintro RA Rc v5 ho hgr hbl hnl
                have HO50 := Lib.hid ho
                replace hS : v5.cell? ⟨bb, bo + k, none⟩ = some (.int .i64 x) := (hbl.cell HBB.out).trans hS
                have HSZ := Lib.hid (Nat.le_trans HSZ.out hbl.size)
                have HH2 := Lib.hid (has_below HH2.out HP2.out hbl)
                have HLN := Lib.hid (HLN.out.trans hbl)
                have HRN := Lib.hid hnl
                refine hK _ _ hS ?_
                clear ho hgr hbl hnl
                intro wq' hwq
                subst hwq
                clear hK
                (try simp only [Act.put, List.setIfInBounds_toArray, List.set_cons_zero, List.set_cons_succ])
                refine wpAnyK_all (rs := [14]) (by kernel_rfl) (by simp) (fun i hi => ?_)
                simp only [List.mem_cons, List.not_mem_nil, or_false] at hi
                subst hi
                refine stepK (o := { dst := some 54, op := _, type := _, pos := _, after := _, guard := _ }) rfl (fun K hK => ?_)
                refine step_append_n rfl (.tmp 50) (.tmp 53) 24 rfl W0.heap.size 3 _ 1 8 Tryz.underlying24 info_z rfl (by decide) _ (0 + 1) (zin (L.take 0) ++ [Value.int .i64 x]) rfl HO50.out (none : Option Addr) 0 (0) (zin (L.drop 0)) rfl HH2.out (by rw [zin_length]; exact HDL.out) HN2x.out (zin_one _) (by unfold maxLen; omega) (by omega) HSZ.out ?_
                rintro TA Tc v6 ho hgr hbl hnl
                have HO54 := Lib.hid ho
                replace hS : v6.cell? ⟨bb, bo + k, none⟩ = some (.int .i64 x) := (hbl.cell HBB.out).trans hS
                have HSZ := Lib.hid (Nat.le_trans HSZ.out hbl.size)
                have HH2 := Lib.hid (has_below HH2.out HP2.out hbl)
                have HLN := Lib.hid (HLN.out.trans hbl)
                have HTN := Lib.hid hnl
                refine hK _ _ hS ?_
                clear ho hgr hbl hnl
                intro wq' hwq
                subst hwq
                clear hK
                (try simp only [Act.put, List.setIfInBounds_toArray, List.set_cons_zero, List.set_cons_succ])
                refine wpAnyK_take (fun _ => rfl) (fun _ _ _ h k => h.trans k) (fun _ _ h k => k ▸ h) (i := 15) (oi := { dst := some 5, op := _, type := _, pos := _, after := _, guard := _ }) (v := ?_) rfl (by kernel_rfl) (by kernel_rfl) (by kernel_rfl) (fun _ _ _ h => h) (Or.inl (Or.inl ⟨by rfl, ?_⟩)) hS ?_
                rotate_left
                focus ((intro w hSw; (try dsimp only at hSw); go_simp); (try with_reducible rfl))
                intro wq' hwq
                subst hwq
                (try simp only [Act.put, List.setIfInBounds_toArray, List.set_cons_zero, List.set_cons_succ])
                refine wpAnyK_done (by kernel_rfl) ?_ _
                obtain ⟨tn, htn⟩ : ∃ tn, 0 + 1 + 0 = tn := ⟨_, rfl⟩
                rw [htn] at HO54 ⊢
                have HOF := Lib.hid (show v6.ownsRow w.heap.size 3 1 (.slice TA tn Tc) tn (zin (joinR a (b.take (k + 1)))) from by
                  have h := own_mono HO54.out HWS.out
                  rw [HT2.out, ← HC.out]
                  simpa [zin] using h)
                have HOL := Lib.hid (show tn = (joinR a (b.take (k + 1))).length from by
                  have h := HOF.out.1
                  rw [zin_length] at h; omega)
                have HLF := Lib.hid (show Later w v6 from Later.of ((HLAT.out.trans lW0).below.trans (HLN.out.mono HWS.out)))
                subst htn; clear hS lW0
                go_wp2_with fail
                go_roundw
                all_goals first
                  | exact JnI.mk _ (k + 1) _ _ _ (by go_num) hkr HOL.out HOF.out HTN.out HLF.out
                  | (simp [intOf]; omega)
            · subst hPA
              by_cases hcc : pc = j
              · have hcc2 := hcc.symm
                subst hcc2
                go_wp2_with fail
                go_quiet (fail)
                go_wp2_with fail
                obtain ⟨wv, hwv⟩ : ∃ x, wr.drewN nq = x := ⟨_, rfl⟩
                rw [hwv]
                have lwv : Later wr wv := hwv ▸ (Later.refl wr).drewN _
                refine wp_region_K (S := fun W : World => W.cell? ⟨bb, bo + k, none⟩ = some (.int .i64 x)) (R := fun a b => a = b) (fun _ => rfl) (by kernel_rfl) ?_
                obtain ⟨W0, hW0⟩ : ∃ x, wv.drew = x := ⟨_, rfl⟩
                rw [hW0]
                have lW0 : Later ws W0 := HLZ.out.trans (hW0 ▸ lwv.drew)
                have hS : (fun W : World => W.cell? ⟨bb, bo + k, none⟩ = some (.int .i64 x)) W0 := (hW0 ▸ lwv.drew : Later wr W0).cell ck2
                dsimp only at hS
                clear hwv hW0 lwv ck2
                have HSZ := Lib.hid (Nat.le_refl W0.heap.size)
                have HBB := Lib.hid (show bb < W0.heap.size from Nat.lt_of_lt_of_le HKB.out lW0.size)
                have HWS := Lib.hid (show w.heap.size ≤ W0.heap.size from (HLAT.out.trans lW0).size)
                have HLN := Lib.hid (Below.refl W0.heap.size W0)
                have HTL := Lib.hid (show (L.take j).length = j * 1 by rw [List.length_take]; have := HPN.out; omega)
                have HDL := Lib.hid (show (L.drop j).length = 0 * 1 by rw [List.length_drop]; have := HPN.out; omega)
                have HPB := Lib.hid (show pb < W0.heap.size from Nat.lt_of_lt_of_le ((HOWN.out.lt pb rfl).2) lW0.size)
                have hpj : j - j = 0 := by omega
                have hpj3 : j ≤ j := by omega
                have hpj5 : j - j = 0 := by omega
                have HH1 := Lib.hid (show Has W0 (some ⟨pb, 0, none⟩ : Option Addr) (zin (L.take j)) from (HHL.out.later lW0).ztake j)
                have HH2 := Lib.hid (show Has W0 (some ⟨pb, 0, none⟩ : Option Addr) (zin (L.drop j)) from (.inl (by rw [List.drop_eq_nil_of_le (by have := HPN.out; omega)]; rfl)))
                have HP2 := Lib.hid (show ∀ b off, (some ⟨pb, 0, none⟩ : Option Addr) = some ⟨b, off, none⟩ → b < W0.heap.size from fun b off e => by injection e with e; injection e with e1 e2; rw [← e1]; exact HPB.out)
                have HN1 := Lib.hid (show (some ⟨pb, 0, none⟩ : Option Addr) = none → j = 0 from fun h => by cases h)
                have HN2x := Lib.hid (show (some ⟨pb, 0, none⟩ : Option Addr) = none → 0 = 0 from fun h => by cases h)
                refine wpAnyK_take (fun _ => rfl) (fun _ _ _ h k => h.trans k) (fun _ _ h k => k ▸ h) (i := 1) (oi := { dst := some 41, op := _, type := _, pos := _, after := _, guard := _ }) (v := ?_) rfl (by kernel_rfl) (by kernel_rfl) (by kernel_rfl) (fun _ _ _ h => h) (Or.inl (Or.inl ⟨by rfl, ?_⟩)) hS ?_
                rotate_left
                focus ((intro w hSw; (try dsimp only at hSw); go_simp); (try with_reducible rfl))
                intro wq' hwq
                subst hwq
                (try simp only [Act.put, List.setIfInBounds_toArray, List.set_cons_zero, List.set_cons_succ])
                refine wpAnyK_take (fun _ => rfl) (fun _ _ _ h k => h.trans k) (fun _ _ h k => k ▸ h) (i := 2) (oi := { dst := some 42, op := _, type := _, pos := _, after := _, guard := _ }) (v := ?_) rfl (by kernel_rfl) (by kernel_rfl) (by kernel_rfl) (fun _ _ _ h => h) (Or.inl (Or.inl ⟨by rfl, ?_⟩)) hS ?_
                rotate_left
                focus ((intro w hSw; (try dsimp only at hSw); go_simp); (try with_reducible rfl))
                intro wq' hwq
                subst hwq
                (try simp only [Act.put, List.setIfInBounds_toArray, List.set_cons_zero, List.set_cons_succ])
                refine wpAnyK_take (fun _ => rfl) (fun _ _ _ h k => h.trans k) (fun _ _ h k => k ▸ h) (i := 3) (oi := { dst := some 43, op := _, type := _, pos := _, after := _, guard := _ }) (v := ?_) rfl (by kernel_rfl) (by kernel_rfl) (by kernel_rfl) (fun _ _ _ h => h) (Or.inl (Or.inl ⟨by rfl, ?_⟩)) hS ?_
                rotate_left
                focus ((intro w hSw; (try dsimp only at hSw); go_simp); (try with_reducible rfl))
                intro wq' hwq
                subst hwq
                (try simp only [Act.put, List.setIfInBounds_toArray, List.set_cons_zero, List.set_cons_succ])
                refine wpAnyK_take (fun _ => rfl) (fun _ _ _ h k => h.trans k) (fun _ _ h k => k ▸ h) (i := 5) (oi := { dst := some 45, op := _, type := _, pos := _, after := _, guard := _ }) (v := ?_) rfl (by kernel_rfl) (by kernel_rfl) (by kernel_rfl) (fun _ _ _ h => h) (Or.inl (Or.inl ⟨by rfl, ?_⟩)) hS ?_
                rotate_left
                focus ((intro w hSw; (try dsimp only at hSw); go_simp); (try with_reducible rfl))
                intro wq' hwq
                subst hwq
                (try simp only [Act.put, List.setIfInBounds_toArray, List.set_cons_zero, List.set_cons_succ])
                refine wpAnyK_take (fun _ => rfl) (fun _ _ _ h k => h.trans k) (fun _ _ h k => k ▸ h) (i := 6) (oi := { dst := some 46, op := _, type := _, pos := _, after := _, guard := _ }) (v := ?_) rfl (by kernel_rfl) (by kernel_rfl) (by kernel_rfl) (fun _ _ _ h => h) (Or.inl (Or.inl ⟨by rfl, ?_⟩)) hS ?_
                rotate_left
                focus ((intro w hSw; (try dsimp only at hSw); go_simp); (try with_reducible rfl))
                intro wq' hwq
                subst hwq
                (try simp only [Act.put, List.setIfInBounds_toArray, List.set_cons_zero, List.set_cons_succ])
                refine wpAnyK_take (fun _ => rfl) (fun _ _ _ h k => h.trans k) (fun _ _ h k => k ▸ h) (i := 7) (oi := { dst := some 47, op := _, type := _, pos := _, after := _, guard := _ }) (v := ?_) rfl (by kernel_rfl) (by kernel_rfl) (by kernel_rfl) (fun _ _ _ h => h) (Or.inl (Or.inl ⟨by rfl, ?_⟩)) hS ?_
                rotate_left
                focus ((intro w hSw; (try dsimp only at hSw); go_simp); (try with_reducible rfl))
                intro wq' hwq
                subst hwq
                (try simp only [Act.put, List.setIfInBounds_toArray, List.set_cons_zero, List.set_cons_succ])
                refine wpAnyK_take (fun _ => rfl) (fun _ _ _ h k => h.trans k) (fun _ _ h k => k ▸ h) (i := 8) (oi := { dst := some 48, op := _, type := _, pos := _, after := _, guard := _ }) (v := ?_) rfl (by kernel_rfl) (by kernel_rfl) (by kernel_rfl) (fun _ _ _ h => h) (Or.inl (Or.inl ⟨by rfl, ?_⟩)) hS ?_
                rotate_left
                focus ((intro w hSw; (try dsimp only at hSw); go_simp); (try with_reducible rfl))
                intro wq' hwq
                subst hwq
                (try simp only [Act.put, List.setIfInBounds_toArray, List.set_cons_zero, List.set_cons_succ])
                refine wpAnyK_take (fun _ => rfl) (fun _ _ _ h k => h.trans k) (fun _ _ h k => k ▸ h) (i := 11) (oi := { dst := some 51, op := _, type := _, pos := _, after := _, guard := _ }) (v := ?_) rfl (by kernel_rfl) (by kernel_rfl) (by kernel_rfl) (fun _ _ _ h => h) (Or.inl (Or.inl ⟨by rfl, ?_⟩)) hS ?_
                rotate_left
                focus ((intro w hSw; (try dsimp only at hSw); go_simp); (try with_reducible rfl))
                intro wq' hwq
                subst hwq
                (try simp only [Act.put, List.setIfInBounds_toArray, List.set_cons_zero, List.set_cons_succ])
                refine wpAnyK_take (fun _ => rfl) (fun _ _ _ h k => h.trans k) (fun _ _ h k => k ▸ h) (i := 12) (oi := { dst := some 52, op := _, type := _, pos := _, after := _, guard := _ }) (v := ?_) rfl (by kernel_rfl) (by kernel_rfl) (by kernel_rfl) (fun _ _ _ h => h) (Or.inl (Or.inl ⟨by rfl, ?_⟩)) hS ?_
                rotate_left
                focus ((intro w hSw; (try dsimp only at hSw); go_simp); (try with_reducible rfl))
                intro wq' hwq
                subst hwq
                (try simp only [Act.put, List.setIfInBounds_toArray, List.set_cons_zero, List.set_cons_succ])
                refine wpAnyK_take (fun _ => rfl) (fun _ _ _ h k => h.trans k) (fun _ _ h k => k ▸ h) (i := 13) (oi := { dst := some 53, op := _, type := _, pos := _, after := _, guard := _ }) (v := ?_) rfl (by kernel_rfl) (by kernel_rfl) (by kernel_rfl) (fun _ _ _ h => h) (Or.inl (Or.inl ⟨by rfl, ?_⟩)) hS ?_
                rotate_left
                focus ((intro w hSw; (try dsimp only at hSw); go_simp); (try with_reducible rfl))
                intro wq' hwq
                subst hwq
                (try simp only [Act.put, List.setIfInBounds_toArray, List.set_cons_zero, List.set_cons_succ])
                refine wpAnyK_all (rs := [0, 9]) (by kernel_rfl) (by simp) (fun i hi => ?_)
                simp only [List.mem_cons, List.not_mem_nil, or_false] at hi
                rcases hi with rfl | rfl
                · refine stepK (o := { dst := some 40, op := _, type := _, pos := _, after := _, guard := _ }) rfl (fun K hK => ?_)
                  go_simp
                  obtain ⟨g40, hg40⟩ : ∃ x, W0.heap.size = x := ⟨_, rfl⟩
                  obtain ⟨v1, hv1⟩ : ∃ y : World, W0.alloc (.cells #[] 3) = y := ⟨_, rfl⟩
                  have lv1 : Later W0 v1 := hv1 ▸ Later.new _ _
                  have Hg40 := Lib.hid (show W0.heap.size ≤ g40 ∧ g40 < v1.heap.size from ⟨Nat.le_of_eq hg40, by rw [← hv1, ← hg40]; simp⟩)
                  have HO40 := Lib.hid (show v1.ownsRow W0.heap.size 3 1 (.slice (some ⟨g40, 0, none⟩) 0 0) 0 [] from hg40 ▸ hv1 ▸ own_empty W0 W0.heap.size 3 1 HSZ.out)
                  try rw [hg40]
                  rw [hv1]
                  replace hS := lv1.cell hS
                  have HSZO := HSZ
                  have HSZ := Lib.hid (Nat.le_trans HSZ.out lv1.size)
                  have HH1 := Lib.hid (HH1.out.later lv1)
                  have HH2 := Lib.hid (HH2.out.later lv1)
                  have HLN := Lib.hid (HLN.out.trans (lv1.below.mono HSZO.out))
                  refine hK _ _ hS ?_
                  clear hv1 hg40 HSZO
                  intro wq' hwq
                  subst hwq
                  clear hK
                  (try simp only [Act.put, List.setIfInBounds_toArray, List.set_cons_zero, List.set_cons_succ])
                  refine wpAnyK_all (rs := [4, 9]) (by kernel_rfl) (by simp) (fun i hi => ?_)
                  simp only [List.mem_cons, List.not_mem_nil, or_false] at hi
                  rcases hi with rfl | rfl
                  · refine stepK (o := { dst := some 44, op := _, type := _, pos := _, after := _, guard := _ }) rfl (fun K hK => ?_)
                    refine step_append_n rfl (.tmp 40) (.tmp 43) 24 rfl W0.heap.size 3 _ 1 8 Tryz.underlying24 info_z rfl (by decide) _ (0) ([]) rfl HO40.out (some ⟨pb, 0, none⟩ : Option Addr) (j) (j) (zin (L.take j)) rfl HH1.out (by rw [zin_length]; exact HTL.out) HN1.out (zin_one _) (by unfold maxLen; omega) (by omega) HSZ.out ?_
                    rintro QA Qc v2 ho hgr hbl hnl
                    rw [Nat.zero_add, List.nil_append] at ho
                    rw [Nat.zero_add]
                    have HO44 := Lib.hid ho
                    replace hS : v2.cell? ⟨bb, bo + k, none⟩ = some (.int .i64 x) := (hbl.cell HBB.out).trans hS
                    have HSZ := Lib.hid (Nat.le_trans HSZ.out hbl.size)
                    have HH2 := Lib.hid (has_below HH2.out HP2.out hbl)
                    have HLN := Lib.hid (HLN.out.trans hbl)
                    have HQN := Lib.hid hnl
                    refine hK _ _ hS ?_
                    clear ho hgr hbl hnl
                    intro wq' hwq
                    subst hwq
                    clear hK
                    (try simp only [Act.put, List.setIfInBounds_toArray, List.set_cons_zero, List.set_cons_succ])
                    refine wpAnyK_all (rs := [9]) (by kernel_rfl) (by simp) (fun i hi => ?_)
                    simp only [List.mem_cons, List.not_mem_nil, or_false] at hi
                    subst hi
                    refine stepK (o := { dst := some 49, op := _, type := _, pos := _, after := _, guard := _ }) rfl (fun K hK => ?_)
                    go_simp
                    obtain ⟨g49, hg49⟩ : ∃ x, v2.heap.size = x := ⟨_, rfl⟩
                    obtain ⟨v4, hv4⟩ : ∃ y : World, v2.alloc (.cells #[.int .i64 x] 3) = y := ⟨_, rfl⟩
                    have lv4 : Later v2 v4 := hv4 ▸ Later.new _ _
                    have Hg49 := Lib.hid (show v2.heap.size ≤ g49 ∧ g49 < v4.heap.size from ⟨Nat.le_of_eq hg49, by rw [← hv4, ← hg49]; simp⟩)
                    have HLT := Lib.hid (show Has v4 (some ⟨g49, 0, none⟩) [.int .i64 x] from hv4 ▸ (Blk.new v2 [Value.int .i64 x].toArray 3 g49 hg49.symm).has)
                    have HO44 := Lib.hid (own_later HO44.out lv4)
                    try rw [hg49]
                    rw [hv4]
                    replace hS := lv4.cell hS
                    have HSZO := HSZ
                    have HSZ := Lib.hid (Nat.le_trans HSZ.out lv4.size)
                    have HH2 := Lib.hid (HH2.out.later lv4)
                    have HLN := Lib.hid (HLN.out.trans (lv4.below.mono HSZO.out))
                    refine hK _ _ hS ?_
                    clear hv4 hg49 HSZO
                    intro wq' hwq
                    subst hwq
                    clear hK
                    (try simp only [Act.put, List.setIfInBounds_toArray, List.set_cons_zero, List.set_cons_succ])
                    refine wpAnyK_all (rs := [10]) (by kernel_rfl) (by simp) (fun i hi => ?_)
                    simp only [List.mem_cons, List.not_mem_nil, or_false] at hi
                    subst hi
                    refine stepK (o := { dst := some 50, op := _, type := _, pos := _, after := _, guard := _ }) rfl (fun K hK => ?_)
                    refine step_append_n rfl (.tmp 44) (.tmp 49) 24 rfl W0.heap.size 3 _ 1 8 Tryz.underlying24 info_z rfl (by decide) _ (j) (zin (L.take j)) rfl HO44.out (some ⟨g49, 0, none⟩) (1) (1) ([.int .i64 x]) rfl HLT.out rfl (fun h => by cases h) (by simp [Value.oneCell']) (by unfold maxLen; omega) (by omega) HSZ.out ?_
                    rintro RA Rc v5 ho hgr hbl hnl
                    have HO50 := Lib.hid ho
                    replace hS : v5.cell? ⟨bb, bo + k, none⟩ = some (.int .i64 x) := (hbl.cell HBB.out).trans hS
                    have HSZ := Lib.hid (Nat.le_trans HSZ.out hbl.size)
                    have HH2 := Lib.hid (has_below HH2.out HP2.out hbl)
                    have HLN := Lib.hid (HLN.out.trans hbl)
                    have HRN := Lib.hid hnl
                    refine hK _ _ hS ?_
                    clear ho hgr hbl hnl
                    intro wq' hwq
                    subst hwq
                    clear hK
                    (try simp only [Act.put, List.setIfInBounds_toArray, List.set_cons_zero, List.set_cons_succ])
                    refine wpAnyK_all (rs := [14]) (by kernel_rfl) (by simp) (fun i hi => ?_)
                    simp only [List.mem_cons, List.not_mem_nil, or_false] at hi
                    subst hi
                    refine stepK (o := { dst := some 54, op := _, type := _, pos := _, after := _, guard := _ }) rfl (fun K hK => ?_)
                    refine step_append_n rfl (.tmp 50) (.tmp 53) 24 rfl W0.heap.size 3 _ 1 8 Tryz.underlying24 info_z rfl (by decide) _ (j + 1) (zin (L.take j) ++ [Value.int .i64 x]) rfl HO50.out (some ⟨pb, 0, none⟩ : Option Addr) 0 (0) (zin (L.drop j)) rfl HH2.out (by rw [zin_length]; exact HDL.out) HN2x.out (zin_one _) (by unfold maxLen; omega) (by omega) HSZ.out ?_
                    rintro TA Tc v6 ho hgr hbl hnl
                    have HO54 := Lib.hid ho
                    replace hS : v6.cell? ⟨bb, bo + k, none⟩ = some (.int .i64 x) := (hbl.cell HBB.out).trans hS
                    have HSZ := Lib.hid (Nat.le_trans HSZ.out hbl.size)
                    have HH2 := Lib.hid (has_below HH2.out HP2.out hbl)
                    have HLN := Lib.hid (HLN.out.trans hbl)
                    have HTN := Lib.hid hnl
                    refine hK _ _ hS ?_
                    clear ho hgr hbl hnl
                    intro wq' hwq
                    subst hwq
                    clear hK
                    (try simp only [Act.put, List.setIfInBounds_toArray, List.set_cons_zero, List.set_cons_succ])
                    refine wpAnyK_take (fun _ => rfl) (fun _ _ _ h k => h.trans k) (fun _ _ h k => k ▸ h) (i := 15) (oi := { dst := some 5, op := _, type := _, pos := _, after := _, guard := _ }) (v := ?_) rfl (by kernel_rfl) (by kernel_rfl) (by kernel_rfl) (fun _ _ _ h => h) (Or.inl (Or.inl ⟨by rfl, ?_⟩)) hS ?_
                    rotate_left
                    focus ((intro w hSw; (try dsimp only at hSw); go_simp); (try with_reducible rfl))
                    intro wq' hwq
                    subst hwq
                    (try simp only [Act.put, List.setIfInBounds_toArray, List.set_cons_zero, List.set_cons_succ])
                    refine wpAnyK_done (by kernel_rfl) ?_ _
                    obtain ⟨tn, htn⟩ : ∃ tn, j + 1 + 0 = tn := ⟨_, rfl⟩
                    rw [htn] at HO54 ⊢
                    have HOF := Lib.hid (show v6.ownsRow w.heap.size 3 1 (.slice TA tn Tc) tn (zin (joinR a (b.take (k + 1)))) from by
                      have h := own_mono HO54.out HWS.out
                      rw [HT2.out, ← HC.out]
                      simpa [zin] using h)
                    have HOL := Lib.hid (show tn = (joinR a (b.take (k + 1))).length from by
                      have h := HOF.out.1
                      rw [zin_length] at h; omega)
                    have HLF := Lib.hid (show Later w v6 from Later.of ((HLAT.out.trans lW0).below.trans (HLN.out.mono HWS.out)))
                    clear hS htn lW0
                    go_wp2_with fail
                    go_roundw
                    all_goals first
                      | exact JnI.mk _ (k + 1) _ _ _ (by go_num) hkr HOL.out HOF.out HTN.out HLF.out
                      | (simp [intOf]; omega)
                  · refine stepK (o := { dst := some 49, op := _, type := _, pos := _, after := _, guard := _ }) rfl (fun K hK => ?_)
                    go_simp
                    obtain ⟨g49, hg49⟩ : ∃ x, v1.heap.size = x := ⟨_, rfl⟩
                    obtain ⟨v2, hv2⟩ : ∃ y : World, v1.alloc (.cells #[.int .i64 x] 3) = y := ⟨_, rfl⟩
                    have lv2 : Later v1 v2 := hv2 ▸ Later.new _ _
                    have Hg49 := Lib.hid (show v1.heap.size ≤ g49 ∧ g49 < v2.heap.size from ⟨Nat.le_of_eq hg49, by rw [← hv2, ← hg49]; simp⟩)
                    have HLT := Lib.hid (show Has v2 (some ⟨g49, 0, none⟩) [.int .i64 x] from hv2 ▸ (Blk.new v1 [Value.int .i64 x].toArray 3 g49 hg49.symm).has)
                    have HO40 := Lib.hid (own_later HO40.out lv2)
                    try rw [hg49]
                    rw [hv2]
                    replace hS := lv2.cell hS
                    have HSZO := HSZ
                    have HSZ := Lib.hid (Nat.le_trans HSZ.out lv2.size)
                    have HH1 := Lib.hid (HH1.out.later lv2)
                    have HH2 := Lib.hid (HH2.out.later lv2)
                    have HLN := Lib.hid (HLN.out.trans (lv2.below.mono HSZO.out))
                    refine hK _ _ hS ?_
                    clear hv2 hg49 HSZO
                    intro wq' hwq
                    subst hwq
                    clear hK
                    (try simp only [Act.put, List.setIfInBounds_toArray, List.set_cons_zero, List.set_cons_succ])
                    refine wpAnyK_all (rs := [4]) (by kernel_rfl) (by simp) (fun i hi => ?_)
                    simp only [List.mem_cons, List.not_mem_nil, or_false] at hi
                    subst hi
                    refine stepK (o := { dst := some 44, op := _, type := _, pos := _, after := _, guard := _ }) rfl (fun K hK => ?_)
                    refine step_append_n rfl (.tmp 40) (.tmp 43) 24 rfl W0.heap.size 3 _ 1 8 Tryz.underlying24 info_z rfl (by decide) _ (0) ([]) rfl HO40.out (some ⟨pb, 0, none⟩ : Option Addr) (j) (j) (zin (L.take j)) rfl HH1.out (by rw [zin_length]; exact HTL.out) HN1.out (zin_one _) (by unfold maxLen; omega) (by omega) HSZ.out ?_
                    rintro QA Qc v4 ho hgr hbl hnl
                    rw [Nat.zero_add, List.nil_append] at ho
                    rw [Nat.zero_add]
                    have HO44 := Lib.hid ho
                    replace hS : v4.cell? ⟨bb, bo + k, none⟩ = some (.int .i64 x) := (hbl.cell HBB.out).trans hS
                    have HSZ := Lib.hid (Nat.le_trans HSZ.out hbl.size)
                    have HH2 := Lib.hid (has_below HH2.out HP2.out hbl)
                    have HLN := Lib.hid (HLN.out.trans hbl)
                    have HLT := Lib.hid (has_grown (q := g40) HLT.out hgr rfl (by have := Hg40.out; have := Hg49.out; omega))
                    have HQN := Lib.hid hnl
                    refine hK _ _ hS ?_
                    clear ho hgr hbl hnl
                    intro wq' hwq
                    subst hwq
                    clear hK
                    (try simp only [Act.put, List.setIfInBounds_toArray, List.set_cons_zero, List.set_cons_succ])
                    refine wpAnyK_all (rs := [10]) (by kernel_rfl) (by simp) (fun i hi => ?_)
                    simp only [List.mem_cons, List.not_mem_nil, or_false] at hi
                    subst hi
                    refine stepK (o := { dst := some 50, op := _, type := _, pos := _, after := _, guard := _ }) rfl (fun K hK => ?_)
                    refine step_append_n rfl (.tmp 44) (.tmp 49) 24 rfl W0.heap.size 3 _ 1 8 Tryz.underlying24 info_z rfl (by decide) _ (j) (zin (L.take j)) rfl HO44.out (some ⟨g49, 0, none⟩) (1) (1) ([.int .i64 x]) rfl HLT.out rfl (fun h => by cases h) (by simp [Value.oneCell']) (by unfold maxLen; omega) (by omega) HSZ.out ?_
                    rintro RA Rc v5 ho hgr hbl hnl
                    have HO50 := Lib.hid ho
                    replace hS : v5.cell? ⟨bb, bo + k, none⟩ = some (.int .i64 x) := (hbl.cell HBB.out).trans hS
                    have HSZ := Lib.hid (Nat.le_trans HSZ.out hbl.size)
                    have HH2 := Lib.hid (has_below HH2.out HP2.out hbl)
                    have HLN := Lib.hid (HLN.out.trans hbl)
                    have HRN := Lib.hid hnl
                    refine hK _ _ hS ?_
                    clear ho hgr hbl hnl
                    intro wq' hwq
                    subst hwq
                    clear hK
                    (try simp only [Act.put, List.setIfInBounds_toArray, List.set_cons_zero, List.set_cons_succ])
                    refine wpAnyK_all (rs := [14]) (by kernel_rfl) (by simp) (fun i hi => ?_)
                    simp only [List.mem_cons, List.not_mem_nil, or_false] at hi
                    subst hi
                    refine stepK (o := { dst := some 54, op := _, type := _, pos := _, after := _, guard := _ }) rfl (fun K hK => ?_)
                    refine step_append_n rfl (.tmp 50) (.tmp 53) 24 rfl W0.heap.size 3 _ 1 8 Tryz.underlying24 info_z rfl (by decide) _ (j + 1) (zin (L.take j) ++ [Value.int .i64 x]) rfl HO50.out (some ⟨pb, 0, none⟩ : Option Addr) 0 (0) (zin (L.drop j)) rfl HH2.out (by rw [zin_length]; exact HDL.out) HN2x.out (zin_one _) (by unfold maxLen; omega) (by omega) HSZ.out ?_
                    rintro TA Tc v6 ho hgr hbl hnl
                    have HO54 := Lib.hid ho
                    replace hS : v6.cell? ⟨bb, bo + k, none⟩ = some (.int .i64 x) := (hbl.cell HBB.out).trans hS
                    have HSZ := Lib.hid (Nat.le_trans HSZ.out hbl.size)
                    have HH2 := Lib.hid (has_below HH2.out HP2.out hbl)
                    have HLN := Lib.hid (HLN.out.trans hbl)
                    have HTN := Lib.hid hnl
                    refine hK _ _ hS ?_
                    clear ho hgr hbl hnl
                    intro wq' hwq
                    subst hwq
                    clear hK
                    (try simp only [Act.put, List.setIfInBounds_toArray, List.set_cons_zero, List.set_cons_succ])
                    refine wpAnyK_take (fun _ => rfl) (fun _ _ _ h k => h.trans k) (fun _ _ h k => k ▸ h) (i := 15) (oi := { dst := some 5, op := _, type := _, pos := _, after := _, guard := _ }) (v := ?_) rfl (by kernel_rfl) (by kernel_rfl) (by kernel_rfl) (fun _ _ _ h => h) (Or.inl (Or.inl ⟨by rfl, ?_⟩)) hS ?_
                    rotate_left
                    focus ((intro w hSw; (try dsimp only at hSw); go_simp); (try with_reducible rfl))
                    intro wq' hwq
                    subst hwq
                    (try simp only [Act.put, List.setIfInBounds_toArray, List.set_cons_zero, List.set_cons_succ])
                    refine wpAnyK_done (by kernel_rfl) ?_ _
                    obtain ⟨tn, htn⟩ : ∃ tn, j + 1 + 0 = tn := ⟨_, rfl⟩
                    rw [htn] at HO54 ⊢
                    have HOF := Lib.hid (show v6.ownsRow w.heap.size 3 1 (.slice TA tn Tc) tn (zin (joinR a (b.take (k + 1)))) from by
                      have h := own_mono HO54.out HWS.out
                      rw [HT2.out, ← HC.out]
                      simpa [zin] using h)
                    have HOL := Lib.hid (show tn = (joinR a (b.take (k + 1))).length from by
                      have h := HOF.out.1
                      rw [zin_length] at h; omega)
                    have HLF := Lib.hid (show Later w v6 from Later.of ((HLAT.out.trans lW0).below.trans (HLN.out.mono HWS.out)))
                    clear hS htn lW0
                    go_wp2_with fail
                    go_roundw
                    all_goals first
                      | exact JnI.mk _ (k + 1) _ _ _ (by go_num) hkr HOL.out HOF.out HTN.out HLF.out
                      | (simp [intOf]; omega)
                · refine stepK (o := { dst := some 49, op := _, type := _, pos := _, after := _, guard := _ }) rfl (fun K hK => ?_)
                  go_simp
                  obtain ⟨g49, hg49⟩ : ∃ x, W0.heap.size = x := ⟨_, rfl⟩
                  obtain ⟨v1, hv1⟩ : ∃ y : World, W0.alloc (.cells #[.int .i64 x] 3) = y := ⟨_, rfl⟩
                  have lv1 : Later W0 v1 := hv1 ▸ Later.new _ _
                  have Hg49 := Lib.hid (show W0.heap.size ≤ g49 ∧ g49 < v1.heap.size from ⟨Nat.le_of_eq hg49, by rw [← hv1, ← hg49]; simp⟩)
                  have HLT := Lib.hid (show Has v1 (some ⟨g49, 0, none⟩) [.int .i64 x] from hv1 ▸ (Blk.new W0 [Value.int .i64 x].toArray 3 g49 hg49.symm).has)
                  try rw [hg49]
                  rw [hv1]
                  replace hS := lv1.cell hS
                  have HSZO := HSZ
                  have HSZ := Lib.hid (Nat.le_trans HSZ.out lv1.size)
                  have HH1 := Lib.hid (HH1.out.later lv1)
                  have HH2 := Lib.hid (HH2.out.later lv1)
                  have HLN := Lib.hid (HLN.out.trans (lv1.below.mono HSZO.out))
                  refine hK _ _ hS ?_
                  clear hv1 hg49 HSZO
                  intro wq' hwq
                  subst hwq
                  clear hK
                  (try simp only [Act.put, List.setIfInBounds_toArray, List.set_cons_zero, List.set_cons_succ])
                  refine wpAnyK_all (rs := [0]) (by kernel_rfl) (by simp) (fun i hi => ?_)
                  simp only [List.mem_cons, List.not_mem_nil, or_false] at hi
                  subst hi
                  refine stepK (o := { dst := some 40, op := _, type := _, pos := _, after := _, guard := _ }) rfl (fun K hK => ?_)
                  go_simp
                  obtain ⟨g40, hg40⟩ : ∃ x, v1.heap.size = x := ⟨_, rfl⟩
                  obtain ⟨v2, hv2⟩ : ∃ y : World, v1.alloc (.cells #[] 3) = y := ⟨_, rfl⟩
                  have lv2 : Later v1 v2 := hv2 ▸ Later.new _ _
                  have Hg40 := Lib.hid (show v1.heap.size ≤ g40 ∧ g40 < v2.heap.size from ⟨Nat.le_of_eq hg40, by rw [← hv2, ← hg40]; simp⟩)
                  have HO40 := Lib.hid (show v2.ownsRow W0.heap.size 3 1 (.slice (some ⟨g40, 0, none⟩) 0 0) 0 [] from hg40 ▸ hv2 ▸ own_empty v1 W0.heap.size 3 1 HSZ.out)
                  have HLT := Lib.hid (HLT.out.later lv2)
                  try rw [hg40]
                  rw [hv2]
                  replace hS := lv2.cell hS
                  have HSZO := HSZ
                  have HSZ := Lib.hid (Nat.le_trans HSZ.out lv2.size)
                  have HH1 := Lib.hid (HH1.out.later lv2)
                  have HH2 := Lib.hid (HH2.out.later lv2)
                  have HLN := Lib.hid (HLN.out.trans (lv2.below.mono HSZO.out))
                  refine hK _ _ hS ?_
                  clear hv2 hg40 HSZO
                  intro wq' hwq
                  subst hwq
                  clear hK
                  (try simp only [Act.put, List.setIfInBounds_toArray, List.set_cons_zero, List.set_cons_succ])
                  refine wpAnyK_all (rs := [4]) (by kernel_rfl) (by simp) (fun i hi => ?_)
                  simp only [List.mem_cons, List.not_mem_nil, or_false] at hi
                  subst hi
                  refine stepK (o := { dst := some 44, op := _, type := _, pos := _, after := _, guard := _ }) rfl (fun K hK => ?_)
                  refine step_append_n rfl (.tmp 40) (.tmp 43) 24 rfl W0.heap.size 3 _ 1 8 Tryz.underlying24 info_z rfl (by decide) _ (0) ([]) rfl HO40.out (some ⟨pb, 0, none⟩ : Option Addr) (j) (j) (zin (L.take j)) rfl HH1.out (by rw [zin_length]; exact HTL.out) HN1.out (zin_one _) (by unfold maxLen; omega) (by omega) HSZ.out ?_
                  rintro QA Qc v4 ho hgr hbl hnl
                  rw [Nat.zero_add, List.nil_append] at ho
                  rw [Nat.zero_add]
                  have HO44 := Lib.hid ho
                  replace hS : v4.cell? ⟨bb, bo + k, none⟩ = some (.int .i64 x) := (hbl.cell HBB.out).trans hS
                  have HSZ := Lib.hid (Nat.le_trans HSZ.out hbl.size)
                  have HH2 := Lib.hid (has_below HH2.out HP2.out hbl)
                  have HLN := Lib.hid (HLN.out.trans hbl)
                  have HLT := Lib.hid (has_grown (q := g40) HLT.out hgr rfl (by have := Hg40.out; have := Hg49.out; omega))
                  have HQN := Lib.hid hnl
                  refine hK _ _ hS ?_
                  clear ho hgr hbl hnl
                  intro wq' hwq
                  subst hwq
                  clear hK
                  (try simp only [Act.put, List.setIfInBounds_toArray, List.set_cons_zero, List.set_cons_succ])
                  refine wpAnyK_all (rs := [10]) (by kernel_rfl) (by simp) (fun i hi => ?_)
                  simp only [List.mem_cons, List.not_mem_nil, or_false] at hi
                  subst hi
                  refine stepK (o := { dst := some 50, op := _, type := _, pos := _, after := _, guard := _ }) rfl (fun K hK => ?_)
                  refine step_append_n rfl (.tmp 44) (.tmp 49) 24 rfl W0.heap.size 3 _ 1 8 Tryz.underlying24 info_z rfl (by decide) _ (j) (zin (L.take j)) rfl HO44.out (some ⟨g49, 0, none⟩) (1) (1) ([.int .i64 x]) rfl HLT.out rfl (fun h => by cases h) (by simp [Value.oneCell']) (by unfold maxLen; omega) (by omega) HSZ.out ?_
                  rintro RA Rc v5 ho hgr hbl hnl
                  have HO50 := Lib.hid ho
                  replace hS : v5.cell? ⟨bb, bo + k, none⟩ = some (.int .i64 x) := (hbl.cell HBB.out).trans hS
                  have HSZ := Lib.hid (Nat.le_trans HSZ.out hbl.size)
                  have HH2 := Lib.hid (has_below HH2.out HP2.out hbl)
                  have HLN := Lib.hid (HLN.out.trans hbl)
                  have HRN := Lib.hid hnl
                  refine hK _ _ hS ?_
                  clear ho hgr hbl hnl
                  intro wq' hwq
                  subst hwq
                  clear hK
                  (try simp only [Act.put, List.setIfInBounds_toArray, List.set_cons_zero, List.set_cons_succ])
                  refine wpAnyK_all (rs := [14]) (by kernel_rfl) (by simp) (fun i hi => ?_)
                  simp only [List.mem_cons, List.not_mem_nil, or_false] at hi
                  subst hi
                  refine stepK (o := { dst := some 54, op := _, type := _, pos := _, after := _, guard := _ }) rfl (fun K hK => ?_)
                  refine step_append_n rfl (.tmp 50) (.tmp 53) 24 rfl W0.heap.size 3 _ 1 8 Tryz.underlying24 info_z rfl (by decide) _ (j + 1) (zin (L.take j) ++ [Value.int .i64 x]) rfl HO50.out (some ⟨pb, 0, none⟩ : Option Addr) 0 (0) (zin (L.drop j)) rfl HH2.out (by rw [zin_length]; exact HDL.out) HN2x.out (zin_one _) (by unfold maxLen; omega) (by omega) HSZ.out ?_
                  rintro TA Tc v6 ho hgr hbl hnl
                  have HO54 := Lib.hid ho
                  replace hS : v6.cell? ⟨bb, bo + k, none⟩ = some (.int .i64 x) := (hbl.cell HBB.out).trans hS
                  have HSZ := Lib.hid (Nat.le_trans HSZ.out hbl.size)
                  have HH2 := Lib.hid (has_below HH2.out HP2.out hbl)
                  have HLN := Lib.hid (HLN.out.trans hbl)
                  have HTN := Lib.hid hnl
                  refine hK _ _ hS ?_
                  clear ho hgr hbl hnl
                  intro wq' hwq
                  subst hwq
                  clear hK
                  (try simp only [Act.put, List.setIfInBounds_toArray, List.set_cons_zero, List.set_cons_succ])
                  refine wpAnyK_take (fun _ => rfl) (fun _ _ _ h k => h.trans k) (fun _ _ h k => k ▸ h) (i := 15) (oi := { dst := some 5, op := _, type := _, pos := _, after := _, guard := _ }) (v := ?_) rfl (by kernel_rfl) (by kernel_rfl) (by kernel_rfl) (fun _ _ _ h => h) (Or.inl (Or.inl ⟨by rfl, ?_⟩)) hS ?_
                  rotate_left
                  focus ((intro w hSw; (try dsimp only at hSw); go_simp); (try with_reducible rfl))
                  intro wq' hwq
                  subst hwq
                  (try simp only [Act.put, List.setIfInBounds_toArray, List.set_cons_zero, List.set_cons_succ])
                  refine wpAnyK_done (by kernel_rfl) ?_ _
                  obtain ⟨tn, htn⟩ : ∃ tn, j + 1 + 0 = tn := ⟨_, rfl⟩
                  rw [htn] at HO54 ⊢
                  have HOF := Lib.hid (show v6.ownsRow w.heap.size 3 1 (.slice TA tn Tc) tn (zin (joinR a (b.take (k + 1)))) from by
                    have h := own_mono HO54.out HWS.out
                    rw [HT2.out, ← HC.out]
                    simpa [zin] using h)
                  have HOL := Lib.hid (show tn = (joinR a (b.take (k + 1))).length from by
                    have h := HOF.out.1
                    rw [zin_length] at h; omega)
                  have HLF := Lib.hid (show Later w v6 from Later.of ((HLAT.out.trans lW0).below.trans (HLN.out.mono HWS.out)))
                  clear hS htn lW0
                  go_wp2_with fail
                  go_roundw
                  all_goals first
                    | exact JnI.mk _ (k + 1) _ _ _ (by go_num) hkr HOL.out HOF.out HTN.out HLF.out
                    | (simp [intOf]; omega)
              · have hcc2 : ¬ j = pc := fun h => hcc h.symm
                go_wp2_with fail
                go_quiet (fail)
                go_wp2_with fail
                obtain ⟨wv, hwv⟩ : ∃ x, wr.drewN nq = x := ⟨_, rfl⟩
                rw [hwv]
                have lwv : Later wr wv := hwv ▸ (Later.refl wr).drewN _
                refine wp_region_K (S := fun W : World => W.cell? ⟨bb, bo + k, none⟩ = some (.int .i64 x)) (R := fun a b => a = b) (fun _ => rfl) (by kernel_rfl) ?_
                obtain ⟨W0, hW0⟩ : ∃ x, wv.drew = x := ⟨_, rfl⟩
                rw [hW0]
                have lW0 : Later ws W0 := HLZ.out.trans (hW0 ▸ lwv.drew)
                have hS : (fun W : World => W.cell? ⟨bb, bo + k, none⟩ = some (.int .i64 x)) W0 := (hW0 ▸ lwv.drew : Later wr W0).cell ck2
                dsimp only at hS
                clear hwv hW0 lwv ck2
                have HSZ := Lib.hid (Nat.le_refl W0.heap.size)
                have HBB := Lib.hid (show bb < W0.heap.size from Nat.lt_of_lt_of_le HKB.out lW0.size)
                have HWS := Lib.hid (show w.heap.size ≤ W0.heap.size from (HLAT.out.trans lW0).size)
                have HLN := Lib.hid (Below.refl W0.heap.size W0)
                have HTL := Lib.hid (show (L.take j).length = j * 1 by rw [List.length_take]; have := HPN.out; omega)
                have HDL := Lib.hid (show (L.drop j).length = 0 * 1 by rw [List.length_drop]; have := HPN.out; omega)
                have HPB := Lib.hid (show pb < W0.heap.size from Nat.lt_of_lt_of_le ((HOWN.out.lt pb rfl).2) lW0.size)
                have hpj : ¬ pc - j = 0 := by have := HCAP.out; omega
                have hpj2 : ¬ pc = j := by omega
                have hpj3 : j ≤ pc := HCAP.out
                have HH1 := Lib.hid (show Has W0 (some ⟨pb, 0, none⟩ : Option Addr) (zin (L.take j)) from (HHL.out.later lW0).ztake j)
                have HH2 := Lib.hid (show Has W0 (some ⟨pb, j, none⟩ : Option Addr) (zin (L.drop j)) from (.inl (by rw [List.drop_eq_nil_of_le (by have := HPN.out; omega)]; rfl)))
                have HP2 := Lib.hid (show ∀ b off, (some ⟨pb, j, none⟩ : Option Addr) = some ⟨b, off, none⟩ → b < W0.heap.size from fun b off e => by injection e with e; injection e with e1 e2; rw [← e1]; exact HPB.out)
                have HN1 := Lib.hid (show (some ⟨pb, 0, none⟩ : Option Addr) = none → pc = 0 from fun h => by cases h)
                have HN2x := Lib.hid (show (some ⟨pb, j, none⟩ : Option Addr) = none → pc - j = 0 from fun h => by cases h)
                refine wpAnyK_take (fun _ => rfl) (fun _ _ _ h k => h.trans k) (fun _ _ h k => k ▸ h) (i := 1) (oi := { dst := some 41, op := _, type := _, pos := _, after := _, guard := _ }) (v := ?_) rfl (by kernel_rfl) (by kernel_rfl) (by kernel_rfl) (fun _ _ _ h => h) (Or.inl (Or.inl ⟨by rfl, ?_⟩)) hS ?_
                rotate_left
                focus ((intro w hSw; (try dsimp only at hSw); go_simp); (try with_reducible rfl))
                intro wq' hwq
                subst hwq
                (try simp only [Act.put, List.setIfInBounds_toArray, List.set_cons_zero, List.set_cons_succ])
                refine wpAnyK_take (fun _ => rfl) (fun _ _ _ h k => h.trans k) (fun _ _ h k => k ▸ h) (i := 2) (oi := { dst := some 42, op := _, type := _, pos := _, after := _, guard := _ }) (v := ?_) rfl (by kernel_rfl) (by kernel_rfl) (by kernel_rfl) (fun _ _ _ h => h) (Or.inl (Or.inl ⟨by rfl, ?_⟩)) hS ?_
                rotate_left
                focus ((intro w hSw; (try dsimp only at hSw); go_simp); (try with_reducible rfl))
                intro wq' hwq
                subst hwq
                (try simp only [Act.put, List.setIfInBounds_toArray, List.set_cons_zero, List.set_cons_succ])
                refine wpAnyK_take (fun _ => rfl) (fun _ _ _ h k => h.trans k) (fun _ _ h k => k ▸ h) (i := 3) (oi := { dst := some 43, op := _, type := _, pos := _, after := _, guard := _ }) (v := ?_) rfl (by kernel_rfl) (by kernel_rfl) (by kernel_rfl) (fun _ _ _ h => h) (Or.inl (Or.inl ⟨by rfl, ?_⟩)) hS ?_
                rotate_left
                focus ((intro w hSw; (try dsimp only at hSw); go_simp); (try with_reducible rfl))
                intro wq' hwq
                subst hwq
                (try simp only [Act.put, List.setIfInBounds_toArray, List.set_cons_zero, List.set_cons_succ])
                refine wpAnyK_take (fun _ => rfl) (fun _ _ _ h k => h.trans k) (fun _ _ h k => k ▸ h) (i := 5) (oi := { dst := some 45, op := _, type := _, pos := _, after := _, guard := _ }) (v := ?_) rfl (by kernel_rfl) (by kernel_rfl) (by kernel_rfl) (fun _ _ _ h => h) (Or.inl (Or.inl ⟨by rfl, ?_⟩)) hS ?_
                rotate_left
                focus ((intro w hSw; (try dsimp only at hSw); go_simp); (try with_reducible rfl))
                intro wq' hwq
                subst hwq
                (try simp only [Act.put, List.setIfInBounds_toArray, List.set_cons_zero, List.set_cons_succ])
                refine wpAnyK_take (fun _ => rfl) (fun _ _ _ h k => h.trans k) (fun _ _ h k => k ▸ h) (i := 6) (oi := { dst := some 46, op := _, type := _, pos := _, after := _, guard := _ }) (v := ?_) rfl (by kernel_rfl) (by kernel_rfl) (by kernel_rfl) (fun _ _ _ h => h) (Or.inl (Or.inl ⟨by rfl, ?_⟩)) hS ?_
                rotate_left
                focus ((intro w hSw; (try dsimp only at hSw); go_simp); (try with_reducible rfl))
                intro wq' hwq
                subst hwq
                (try simp only [Act.put, List.setIfInBounds_toArray, List.set_cons_zero, List.set_cons_succ])
                refine wpAnyK_take (fun _ => rfl) (fun _ _ _ h k => h.trans k) (fun _ _ h k => k ▸ h) (i := 7) (oi := { dst := some 47, op := _, type := _, pos := _, after := _, guard := _ }) (v := ?_) rfl (by kernel_rfl) (by kernel_rfl) (by kernel_rfl) (fun _ _ _ h => h) (Or.inl (Or.inl ⟨by rfl, ?_⟩)) hS ?_
                rotate_left
                focus ((intro w hSw; (try dsimp only at hSw); go_simp); (try with_reducible rfl))
                intro wq' hwq
                subst hwq
                (try simp only [Act.put, List.setIfInBounds_toArray, List.set_cons_zero, List.set_cons_succ])
                refine wpAnyK_take (fun _ => rfl) (fun _ _ _ h k => h.trans k) (fun _ _ h k => k ▸ h) (i := 8) (oi := { dst := some 48, op := _, type := _, pos := _, after := _, guard := _ }) (v := ?_) rfl (by kernel_rfl) (by kernel_rfl) (by kernel_rfl) (fun _ _ _ h => h) (Or.inl (Or.inl ⟨by rfl, ?_⟩)) hS ?_
                rotate_left
                focus ((intro w hSw; (try dsimp only at hSw); go_simp); (try with_reducible rfl))
                intro wq' hwq
                subst hwq
                (try simp only [Act.put, List.setIfInBounds_toArray, List.set_cons_zero, List.set_cons_succ])
                refine wpAnyK_take (fun _ => rfl) (fun _ _ _ h k => h.trans k) (fun _ _ h k => k ▸ h) (i := 11) (oi := { dst := some 51, op := _, type := _, pos := _, after := _, guard := _ }) (v := ?_) rfl (by kernel_rfl) (by kernel_rfl) (by kernel_rfl) (fun _ _ _ h => h) (Or.inl (Or.inl ⟨by rfl, ?_⟩)) hS ?_
                rotate_left
                focus ((intro w hSw; (try dsimp only at hSw); go_simp); (try with_reducible rfl))
                intro wq' hwq
                subst hwq
                (try simp only [Act.put, List.setIfInBounds_toArray, List.set_cons_zero, List.set_cons_succ])
                refine wpAnyK_take (fun _ => rfl) (fun _ _ _ h k => h.trans k) (fun _ _ h k => k ▸ h) (i := 12) (oi := { dst := some 52, op := _, type := _, pos := _, after := _, guard := _ }) (v := ?_) rfl (by kernel_rfl) (by kernel_rfl) (by kernel_rfl) (fun _ _ _ h => h) (Or.inl (Or.inl ⟨by rfl, ?_⟩)) hS ?_
                rotate_left
                focus ((intro w hSw; (try dsimp only at hSw); go_simp); (try with_reducible rfl))
                intro wq' hwq
                subst hwq
                (try simp only [Act.put, List.setIfInBounds_toArray, List.set_cons_zero, List.set_cons_succ])
                refine wpAnyK_take (fun _ => rfl) (fun _ _ _ h k => h.trans k) (fun _ _ h k => k ▸ h) (i := 13) (oi := { dst := some 53, op := _, type := _, pos := _, after := _, guard := _ }) (v := ?_) rfl (by kernel_rfl) (by kernel_rfl) (by kernel_rfl) (fun _ _ _ h => h) (Or.inl (Or.inl ⟨by rfl, ?_⟩)) hS ?_
                rotate_left
                focus ((intro w hSw; (try dsimp only at hSw); go_simp); (try with_reducible rfl))
                intro wq' hwq
                subst hwq
                (try simp only [Act.put, List.setIfInBounds_toArray, List.set_cons_zero, List.set_cons_succ])
                refine wpAnyK_all (rs := [0, 9]) (by kernel_rfl) (by simp) (fun i hi => ?_)
                simp only [List.mem_cons, List.not_mem_nil, or_false] at hi
                rcases hi with rfl | rfl
                · refine stepK (o := { dst := some 40, op := _, type := _, pos := _, after := _, guard := _ }) rfl (fun K hK => ?_)
                  go_simp
                  obtain ⟨g40, hg40⟩ : ∃ x, W0.heap.size = x := ⟨_, rfl⟩
                  obtain ⟨v1, hv1⟩ : ∃ y : World, W0.alloc (.cells #[] 3) = y := ⟨_, rfl⟩
                  have lv1 : Later W0 v1 := hv1 ▸ Later.new _ _
                  have Hg40 := Lib.hid (show W0.heap.size ≤ g40 ∧ g40 < v1.heap.size from ⟨Nat.le_of_eq hg40, by rw [← hv1, ← hg40]; simp⟩)
                  have HO40 := Lib.hid (show v1.ownsRow W0.heap.size 3 1 (.slice (some ⟨g40, 0, none⟩) 0 0) 0 [] from hg40 ▸ hv1 ▸ own_empty W0 W0.heap.size 3 1 HSZ.out)
                  try rw [hg40]
                  rw [hv1]
                  replace hS := lv1.cell hS
                  have HSZO := HSZ
                  have HSZ := Lib.hid (Nat.le_trans HSZ.out lv1.size)
                  have HH1 := Lib.hid (HH1.out.later lv1)
                  have HH2 := Lib.hid (HH2.out.later lv1)
                  have HLN := Lib.hid (HLN.out.trans (lv1.below.mono HSZO.out))
                  refine hK _ _ hS ?_
                  clear hv1 hg40 HSZO
                  intro wq' hwq
                  subst hwq
                  clear hK
                  (try simp only [Act.put, List.setIfInBounds_toArray, List.set_cons_zero, List.set_cons_succ])
                  refine wpAnyK_all (rs := [4, 9]) (by kernel_rfl) (by simp) (fun i hi => ?_)
                  simp only [List.mem_cons, List.not_mem_nil, or_false] at hi
                  rcases hi with rfl | rfl
                  · refine stepK (o := { dst := some 44, op := _, type := _, pos := _, after := _, guard := _ }) rfl (fun K hK => ?_)
                    refine step_append_n rfl (.tmp 40) (.tmp 43) 24 rfl W0.heap.size 3 _ 1 8 Tryz.underlying24 info_z rfl (by decide) _ (0) ([]) rfl HO40.out (some ⟨pb, 0, none⟩ : Option Addr) (j) (pc) (zin (L.take j)) rfl HH1.out (by rw [zin_length]; exact HTL.out) HN1.out (zin_one _) (by unfold maxLen; omega) (by omega) HSZ.out ?_
                    rintro QA Qc v2 ho hgr hbl hnl
                    rw [Nat.zero_add, List.nil_append] at ho
                    rw [Nat.zero_add]
                    have HO44 := Lib.hid ho
                    replace hS : v2.cell? ⟨bb, bo + k, none⟩ = some (.int .i64 x) := (hbl.cell HBB.out).trans hS
                    have HSZ := Lib.hid (Nat.le_trans HSZ.out hbl.size)
                    have HH2 := Lib.hid (has_below HH2.out HP2.out hbl)
                    have HLN := Lib.hid (HLN.out.trans hbl)
                    have HQN := Lib.hid hnl
                    refine hK _ _ hS ?_
                    clear ho hgr hbl hnl
                    intro wq' hwq
                    subst hwq
                    clear hK
                    (try simp only [Act.put, List.setIfInBounds_toArray, List.set_cons_zero, List.set_cons_succ])
                    refine wpAnyK_all (rs := [9]) (by kernel_rfl) (by simp) (fun i hi => ?_)
                    simp only [List.mem_cons, List.not_mem_nil, or_false] at hi
                    subst hi
                    refine stepK (o := { dst := some 49, op := _, type := _, pos := _, after := _, guard := _ }) rfl (fun K hK => ?_)
                    go_simp
                    obtain ⟨g49, hg49⟩ : ∃ x, v2.heap.size = x := ⟨_, rfl⟩
                    obtain ⟨v4, hv4⟩ : ∃ y : World, v2.alloc (.cells #[.int .i64 x] 3) = y := ⟨_, rfl⟩
                    have lv4 : Later v2 v4 := hv4 ▸ Later.new _ _
                    have Hg49 := Lib.hid (show v2.heap.size ≤ g49 ∧ g49 < v4.heap.size from ⟨Nat.le_of_eq hg49, by rw [← hv4, ← hg49]; simp⟩)
                    have HLT := Lib.hid (show Has v4 (some ⟨g49, 0, none⟩) [.int .i64 x] from hv4 ▸ (Blk.new v2 [Value.int .i64 x].toArray 3 g49 hg49.symm).has)
                    have HO44 := Lib.hid (own_later HO44.out lv4)
                    try rw [hg49]
                    rw [hv4]
                    replace hS := lv4.cell hS
                    have HSZO := HSZ
                    have HSZ := Lib.hid (Nat.le_trans HSZ.out lv4.size)
                    have HH2 := Lib.hid (HH2.out.later lv4)
                    have HLN := Lib.hid (HLN.out.trans (lv4.below.mono HSZO.out))
                    refine hK _ _ hS ?_
                    clear hv4 hg49 HSZO
                    intro wq' hwq
                    subst hwq
                    clear hK
                    (try simp only [Act.put, List.setIfInBounds_toArray, List.set_cons_zero, List.set_cons_succ])
                    refine wpAnyK_all (rs := [10]) (by kernel_rfl) (by simp) (fun i hi => ?_)
                    simp only [List.mem_cons, List.not_mem_nil, or_false] at hi
                    subst hi
                    refine stepK (o := { dst := some 50, op := _, type := _, pos := _, after := _, guard := _ }) rfl (fun K hK => ?_)
                    refine step_append_n rfl (.tmp 44) (.tmp 49) 24 rfl W0.heap.size 3 _ 1 8 Tryz.underlying24 info_z rfl (by decide) _ (j) (zin (L.take j)) rfl HO44.out (some ⟨g49, 0, none⟩) (1) (1) ([.int .i64 x]) rfl HLT.out rfl (fun h => by cases h) (by simp [Value.oneCell']) (by unfold maxLen; omega) (by omega) HSZ.out ?_
                    rintro RA Rc v5 ho hgr hbl hnl
                    have HO50 := Lib.hid ho
                    replace hS : v5.cell? ⟨bb, bo + k, none⟩ = some (.int .i64 x) := (hbl.cell HBB.out).trans hS
                    have HSZ := Lib.hid (Nat.le_trans HSZ.out hbl.size)
                    have HH2 := Lib.hid (has_below HH2.out HP2.out hbl)
                    have HLN := Lib.hid (HLN.out.trans hbl)
                    have HRN := Lib.hid hnl
                    refine hK _ _ hS ?_
                    clear ho hgr hbl hnl
                    intro wq' hwq
                    subst hwq
                    clear hK
                    (try simp only [Act.put, List.setIfInBounds_toArray, List.set_cons_zero, List.set_cons_succ])
                    refine wpAnyK_all (rs := [14]) (by kernel_rfl) (by simp) (fun i hi => ?_)
                    simp only [List.mem_cons, List.not_mem_nil, or_false] at hi
                    subst hi
                    refine stepK (o := { dst := some 54, op := _, type := _, pos := _, after := _, guard := _ }) rfl (fun K hK => ?_)
                    refine step_append_n rfl (.tmp 50) (.tmp 53) 24 rfl W0.heap.size 3 _ 1 8 Tryz.underlying24 info_z rfl (by decide) _ (j + 1) (zin (L.take j) ++ [Value.int .i64 x]) rfl HO50.out (some ⟨pb, j, none⟩ : Option Addr) 0 (pc - j) (zin (L.drop j)) rfl HH2.out (by rw [zin_length]; exact HDL.out) HN2x.out (zin_one _) (by unfold maxLen; omega) (by omega) HSZ.out ?_
                    rintro TA Tc v6 ho hgr hbl hnl
                    have HO54 := Lib.hid ho
                    replace hS : v6.cell? ⟨bb, bo + k, none⟩ = some (.int .i64 x) := (hbl.cell HBB.out).trans hS
                    have HSZ := Lib.hid (Nat.le_trans HSZ.out hbl.size)
                    have HH2 := Lib.hid (has_below HH2.out HP2.out hbl)
                    have HLN := Lib.hid (HLN.out.trans hbl)
                    have HTN := Lib.hid hnl
                    refine hK _ _ hS ?_
                    clear ho hgr hbl hnl
                    intro wq' hwq
                    subst hwq
                    clear hK
                    (try simp only [Act.put, List.setIfInBounds_toArray, List.set_cons_zero, List.set_cons_succ])
                    refine wpAnyK_take (fun _ => rfl) (fun _ _ _ h k => h.trans k) (fun _ _ h k => k ▸ h) (i := 15) (oi := { dst := some 5, op := _, type := _, pos := _, after := _, guard := _ }) (v := ?_) rfl (by kernel_rfl) (by kernel_rfl) (by kernel_rfl) (fun _ _ _ h => h) (Or.inl (Or.inl ⟨by rfl, ?_⟩)) hS ?_
                    rotate_left
                    focus ((intro w hSw; (try dsimp only at hSw); go_simp); (try with_reducible rfl))
                    intro wq' hwq
                    subst hwq
                    (try simp only [Act.put, List.setIfInBounds_toArray, List.set_cons_zero, List.set_cons_succ])
                    refine wpAnyK_done (by kernel_rfl) ?_ _
                    obtain ⟨tn, htn⟩ : ∃ tn, j + 1 + 0 = tn := ⟨_, rfl⟩
                    rw [htn] at HO54 ⊢
                    have HOF := Lib.hid (show v6.ownsRow w.heap.size 3 1 (.slice TA tn Tc) tn (zin (joinR a (b.take (k + 1)))) from by
                      have h := own_mono HO54.out HWS.out
                      rw [HT2.out, ← HC.out]
                      simpa [zin] using h)
                    have HOL := Lib.hid (show tn = (joinR a (b.take (k + 1))).length from by
                      have h := HOF.out.1
                      rw [zin_length] at h; omega)
                    have HLF := Lib.hid (show Later w v6 from Later.of ((HLAT.out.trans lW0).below.trans (HLN.out.mono HWS.out)))
                    clear hS htn lW0
                    go_wp2_with fail
                    go_roundw
                    all_goals first
                      | exact JnI.mk _ (k + 1) _ _ _ (by go_num) hkr HOL.out HOF.out HTN.out HLF.out
                      | (simp [intOf]; omega)
                  · refine stepK (o := { dst := some 49, op := _, type := _, pos := _, after := _, guard := _ }) rfl (fun K hK => ?_)
                    go_simp
                    obtain ⟨g49, hg49⟩ : ∃ x, v1.heap.size = x := ⟨_, rfl⟩
                    obtain ⟨v2, hv2⟩ : ∃ y : World, v1.alloc (.cells #[.int .i64 x] 3) = y := ⟨_, rfl⟩
                    have lv2 : Later v1 v2 := hv2 ▸ Later.new _ _
                    have Hg49 := Lib.hid (show v1.heap.size ≤ g49 ∧ g49 < v2.heap.size from ⟨Nat.le_of_eq hg49, by rw [← hv2, ← hg49]; simp⟩)
                    have HLT := Lib.hid (show Has v2 (some ⟨g49, 0, none⟩) [.int .i64 x] from hv2 ▸ (Blk.new v1 [Value.int .i64 x].toArray 3 g49 hg49.symm).has)
                    have HO40 := Lib.hid (own_later HO40.out lv2)
                    try rw [hg49]
                    rw [hv2]
                    replace hS := lv2.cell hS
                    have HSZO := HSZ
                    have HSZ := Lib.hid (Nat.le_trans HSZ.out lv2.size)
                    have HH1 := Lib.hid (HH1.out.later lv2)
                    have HH2 := Lib.hid (HH2.out.later lv2)
                    have HLN := Lib.hid (HLN.out.trans (lv2.below.mono HSZO.out))
                    refine hK _ _ hS ?_
                    clear hv2 hg49 HSZO
                    intro wq' hwq
                    subst hwq
                    clear hK
                    (try simp only [Act.put, List.setIfInBounds_toArray, List.set_cons_zero, List.set_cons_succ])
                    refine wpAnyK_all (rs := [4]) (by kernel_rfl) (by simp) (fun i hi => ?_)
                    simp only [List.mem_cons, List.not_mem_nil, or_false] at hi
                    subst hi
                    refine stepK (o := { dst := some 44, op := _, type := _, pos := _, after := _, guard := _ }) rfl (fun K hK => ?_)
                    refine step_append_n rfl (.tmp 40) (.tmp 43) 24 rfl W0.heap.size 3 _ 1 8 Tryz.underlying24 info_z rfl (by decide) _ (0) ([]) rfl HO40.out (some ⟨pb, 0, none⟩ : Option Addr) (j) (pc) (zin (L.take j)) rfl HH1.out (by rw [zin_length]; exact HTL.out) HN1.out (zin_one _) (by unfold maxLen; omega) (by omega) HSZ.out ?_
                    rintro QA Qc v4 ho hgr hbl hnl
                    rw [Nat.zero_add, List.nil_append] at ho
                    rw [Nat.zero_add]
                    have HO44 := Lib.hid ho
                    replace hS : v4.cell? ⟨bb, bo + k, none⟩ = some (.int .i64 x) := (hbl.cell HBB.out).trans hS
                    have HSZ := Lib.hid (Nat.le_trans HSZ.out hbl.size)
                    have HH2 := Lib.hid (has_below HH2.out HP2.out hbl)
                    have HLN := Lib.hid (HLN.out.trans hbl)
                    have HLT := Lib.hid (has_grown (q := g40) HLT.out hgr rfl (by have := Hg40.out; have := Hg49.out; omega))
                    have HQN := Lib.hid hnl
                    refine hK _ _ hS ?_
                    clear ho hgr hbl hnl
                    intro wq' hwq
                    subst hwq
                    clear hK
                    (try simp only [Act.put, List.setIfInBounds_toArray, List.set_cons_zero, List.set_cons_succ])
                    refine wpAnyK_all (rs := [10]) (by kernel_rfl) (by simp) (fun i hi => ?_)
                    simp only [List.mem_cons, List.not_mem_nil, or_false] at hi
                    subst hi
                    refine stepK (o := { dst := some 50, op := _, type := _, pos := _, after := _, guard := _ }) rfl (fun K hK => ?_)
                    refine step_append_n rfl (.tmp 44) (.tmp 49) 24 rfl W0.heap.size 3 _ 1 8 Tryz.underlying24 info_z rfl (by decide) _ (j) (zin (L.take j)) rfl HO44.out (some ⟨g49, 0, none⟩) (1) (1) ([.int .i64 x]) rfl HLT.out rfl (fun h => by cases h) (by simp [Value.oneCell']) (by unfold maxLen; omega) (by omega) HSZ.out ?_
                    rintro RA Rc v5 ho hgr hbl hnl
                    have HO50 := Lib.hid ho
                    replace hS : v5.cell? ⟨bb, bo + k, none⟩ = some (.int .i64 x) := (hbl.cell HBB.out).trans hS
                    have HSZ := Lib.hid (Nat.le_trans HSZ.out hbl.size)
                    have HH2 := Lib.hid (has_below HH2.out HP2.out hbl)
                    have HLN := Lib.hid (HLN.out.trans hbl)
                    have HRN := Lib.hid hnl
                    refine hK _ _ hS ?_
                    clear ho hgr hbl hnl
                    intro wq' hwq
                    subst hwq
                    clear hK
                    (try simp only [Act.put, List.setIfInBounds_toArray, List.set_cons_zero, List.set_cons_succ])
                    refine wpAnyK_all (rs := [14]) (by kernel_rfl) (by simp) (fun i hi => ?_)
                    simp only [List.mem_cons, List.not_mem_nil, or_false] at hi
                    subst hi
                    refine stepK (o := { dst := some 54, op := _, type := _, pos := _, after := _, guard := _ }) rfl (fun K hK => ?_)
                    refine step_append_n rfl (.tmp 50) (.tmp 53) 24 rfl W0.heap.size 3 _ 1 8 Tryz.underlying24 info_z rfl (by decide) _ (j + 1) (zin (L.take j) ++ [Value.int .i64 x]) rfl HO50.out (some ⟨pb, j, none⟩ : Option Addr) 0 (pc - j) (zin (L.drop j)) rfl HH2.out (by rw [zin_length]; exact HDL.out) HN2x.out (zin_one _) (by unfold maxLen; omega) (by omega) HSZ.out ?_
                    rintro TA Tc v6 ho hgr hbl hnl
                    have HO54 := Lib.hid ho
                    replace hS : v6.cell? ⟨bb, bo + k, none⟩ = some (.int .i64 x) := (hbl.cell HBB.out).trans hS
                    have HSZ := Lib.hid (Nat.le_trans HSZ.out hbl.size)
                    have HH2 := Lib.hid (has_below HH2.out HP2.out hbl)
                    have HLN := Lib.hid (HLN.out.trans hbl)
                    have HTN := Lib.hid hnl
                    refine hK _ _ hS ?_
                    clear ho hgr hbl hnl
                    intro wq' hwq
                    subst hwq
                    clear hK
                    (try simp only [Act.put, List.setIfInBounds_toArray, List.set_cons_zero, List.set_cons_succ])
                    refine wpAnyK_take (fun _ => rfl) (fun _ _ _ h k => h.trans k) (fun _ _ h k => k ▸ h) (i := 15) (oi := { dst := some 5, op := _, type := _, pos := _, after := _, guard := _ }) (v := ?_) rfl (by kernel_rfl) (by kernel_rfl) (by kernel_rfl) (fun _ _ _ h => h) (Or.inl (Or.inl ⟨by rfl, ?_⟩)) hS ?_
                    rotate_left
                    focus ((intro w hSw; (try dsimp only at hSw); go_simp); (try with_reducible rfl))
                    intro wq' hwq
                    subst hwq
                    (try simp only [Act.put, List.setIfInBounds_toArray, List.set_cons_zero, List.set_cons_succ])
                    refine wpAnyK_done (by kernel_rfl) ?_ _
                    obtain ⟨tn, htn⟩ : ∃ tn, j + 1 + 0 = tn := ⟨_, rfl⟩
                    rw [htn] at HO54 ⊢
                    have HOF := Lib.hid (show v6.ownsRow w.heap.size 3 1 (.slice TA tn Tc) tn (zin (joinR a (b.take (k + 1)))) from by
                      have h := own_mono HO54.out HWS.out
                      rw [HT2.out, ← HC.out]
                      simpa [zin] using h)
                    have HOL := Lib.hid (show tn = (joinR a (b.take (k + 1))).length from by
                      have h := HOF.out.1
                      rw [zin_length] at h; omega)
                    have HLF := Lib.hid (show Later w v6 from Later.of ((HLAT.out.trans lW0).below.trans (HLN.out.mono HWS.out)))
                    clear hS htn lW0
                    go_wp2_with fail
                    go_roundw
                    all_goals first
                      | exact JnI.mk _ (k + 1) _ _ _ (by go_num) hkr HOL.out HOF.out HTN.out HLF.out
                      | (simp [intOf]; omega)
                · refine stepK (o := { dst := some 49, op := _, type := _, pos := _, after := _, guard := _ }) rfl (fun K hK => ?_)
                  go_simp
                  obtain ⟨g49, hg49⟩ : ∃ x, W0.heap.size = x := ⟨_, rfl⟩
                  obtain ⟨v1, hv1⟩ : ∃ y : World, W0.alloc (.cells #[.int .i64 x] 3) = y := ⟨_, rfl⟩
                  have lv1 : Later W0 v1 := hv1 ▸ Later.new _ _
                  have Hg49 := Lib.hid (show W0.heap.size ≤ g49 ∧ g49 < v1.heap.size from ⟨Nat.le_of_eq hg49, by rw [← hv1, ← hg49]; simp⟩)
                  have HLT := Lib.hid (show Has v1 (some ⟨g49, 0, none⟩) [.int .i64 x] from hv1 ▸ (Blk.new W0 [Value.int .i64 x].toArray 3 g49 hg49.symm).has)
                  try rw [hg49]
                  rw [hv1]
                  replace hS := lv1.cell hS
                  have HSZO := HSZ
                  have HSZ := Lib.hid (Nat.le_trans HSZ.out lv1.size)
                  have HH1 := Lib.hid (HH1.out.later lv1)
                  have HH2 := Lib.hid (HH2.out.later lv1)
                  have HLN := Lib.hid (HLN.out.trans (lv1.below.mono HSZO.out))
                  refine hK _ _ hS ?_
                  clear hv1 hg49 HSZO
                  intro wq' hwq
                  subst hwq
                  clear hK
                  (try simp only [Act.put, List.setIfInBounds_toArray, List.set_cons_zero, List.set_cons_succ])
                  refine wpAnyK_all (rs := [0]) (by kernel_rfl) (by simp) (fun i hi => ?_)
                  simp only [List.mem_cons, List.not_mem_nil, or_false] at hi
                  subst hi
                  refine stepK (o := { dst := some 40, op := _, type := _, pos := _, after := _, guard := _ }) rfl (fun K hK => ?_)
                  go_simp
                  obtain ⟨g40, hg40⟩ : ∃ x, v1.heap.size = x := ⟨_, rfl⟩
                  obtain ⟨v2, hv2⟩ : ∃ y : World, v1.alloc (.cells #[] 3) = y := ⟨_, rfl⟩
                  have lv2 : Later v1 v2 := hv2 ▸ Later.new _ _
                  have Hg40 := Lib.hid (show v1.heap.size ≤ g40 ∧ g40 < v2.heap.size from ⟨Nat.le_of_eq hg40, by rw [← hv2, ← hg40]; simp⟩)
                  have HO40 := Lib.hid (show v2.ownsRow W0.heap.size 3 1 (.slice (some ⟨g40, 0, none⟩) 0 0) 0 [] from hg40 ▸ hv2 ▸ own_empty v1 W0.heap.size 3 1 HSZ.out)
                  have HLT := Lib.hid (HLT.out.later lv2)
                  try rw [hg40]
                  rw [hv2]
                  replace hS := lv2.cell hS
                  have HSZO := HSZ
                  have HSZ := Lib.hid (Nat.le_trans HSZ.out lv2.size)
                  have HH1 := Lib.hid (HH1.out.later lv2)
                  have HH2 := Lib.hid (HH2.out.later lv2)
                  have HLN := Lib.hid (HLN.out.trans (lv2.below.mono HSZO.out))
                  refine hK _ _ hS ?_
                  clear hv2 hg40 HSZO
                  intro wq' hwq
                  subst hwq
                  clear hK
                  (try simp only [Act.put, List.setIfInBounds_toArray, List.set_cons_zero, List.set_cons_succ])
                  refine wpAnyK_all (rs := [4]) (by kernel_rfl) (by simp) (fun i hi => ?_)
                  simp only [List.mem_cons, List.not_mem_nil, or_false] at hi
                  subst hi
                  refine stepK (o := { dst := some 44, op := _, type := _, pos := _, after := _, guard := _ }) rfl (fun K hK => ?_)
                  refine step_append_n rfl (.tmp 40) (.tmp 43) 24 rfl W0.heap.size 3 _ 1 8 Tryz.underlying24 info_z rfl (by decide) _ (0) ([]) rfl HO40.out (some ⟨pb, 0, none⟩ : Option Addr) (j) (pc) (zin (L.take j)) rfl HH1.out (by rw [zin_length]; exact HTL.out) HN1.out (zin_one _) (by unfold maxLen; omega) (by omega) HSZ.out ?_
                  rintro QA Qc v4 ho hgr hbl hnl
                  rw [Nat.zero_add, List.nil_append] at ho
                  rw [Nat.zero_add]
                  have HO44 := Lib.hid ho
                  replace hS : v4.cell? ⟨bb, bo + k, none⟩ = some (.int .i64 x) := (hbl.cell HBB.out).trans hS
                  have HSZ := Lib.hid (Nat.le_trans HSZ.out hbl.size)
                  have HH2 := Lib.hid (has_below HH2.out HP2.out hbl)
                  have HLN := Lib.hid (HLN.out.trans hbl)
                  have HLT := Lib.hid (has_grown (q := g40) HLT.out hgr rfl (by have := Hg40.out; have := Hg49.out; omega))
                  have HQN := Lib.hid hnl
                  refine hK _ _ hS ?_
                  clear ho hgr hbl hnl
                  intro wq' hwq
                  subst hwq
                  clear hK
                  (try simp only [Act.put, List.setIfInBounds_toArray, List.set_cons_zero, List.set_cons_succ])
                  refine wpAnyK_all (rs := [10]) (by kernel_rfl) (by simp) (fun i hi => ?_)
                  simp only [List.mem_cons, List.not_mem_nil, or_false] at hi
                  subst hi
                  refine stepK (o := { dst := some 50, op := _, type := _, pos := _, after := _, guard := _ }) rfl (fun K hK => ?_)
                  refine step_append_n rfl (.tmp 44) (.tmp 49) 24 rfl W0.heap.size 3 _ 1 8 Tryz.underlying24 info_z rfl (by decide) _ (j) (zin (L.take j)) rfl HO44.out (some ⟨g49, 0, none⟩) (1) (1) ([.int .i64 x]) rfl HLT.out rfl (fun h => by cases h) (by simp [Value.oneCell']) (by unfold maxLen; omega) (by omega) HSZ.out ?_
                  rintro RA Rc v5 ho hgr hbl hnl
                  have HO50 := Lib.hid ho
                  replace hS : v5.cell? ⟨bb, bo + k, none⟩ = some (.int .i64 x) := (hbl.cell HBB.out).trans hS
                  have HSZ := Lib.hid (Nat.le_trans HSZ.out hbl.size)
                  have HH2 := Lib.hid (has_below HH2.out HP2.out hbl)
                  have HLN := Lib.hid (HLN.out.trans hbl)
                  have HRN := Lib.hid hnl
                  refine hK _ _ hS ?_
                  clear ho hgr hbl hnl
                  intro wq' hwq
                  subst hwq
                  clear hK
                  (try simp only [Act.put, List.setIfInBounds_toArray, List.set_cons_zero, List.set_cons_succ])
                  refine wpAnyK_all (rs := [14]) (by kernel_rfl) (by simp) (fun i hi => ?_)
                  simp only [List.mem_cons, List.not_mem_nil, or_false] at hi
                  subst hi
                  refine stepK (o := { dst := some 54, op := _, type := _, pos := _, after := _, guard := _ }) rfl (fun K hK => ?_)
                  refine step_append_n rfl (.tmp 50) (.tmp 53) 24 rfl W0.heap.size 3 _ 1 8 Tryz.underlying24 info_z rfl (by decide) _ (j + 1) (zin (L.take j) ++ [Value.int .i64 x]) rfl HO50.out (some ⟨pb, j, none⟩ : Option Addr) 0 (pc - j) (zin (L.drop j)) rfl HH2.out (by rw [zin_length]; exact HDL.out) HN2x.out (zin_one _) (by unfold maxLen; omega) (by omega) HSZ.out ?_
                  rintro TA Tc v6 ho hgr hbl hnl
                  have HO54 := Lib.hid ho
                  replace hS : v6.cell? ⟨bb, bo + k, none⟩ = some (.int .i64 x) := (hbl.cell HBB.out).trans hS
                  have HSZ := Lib.hid (Nat.le_trans HSZ.out hbl.size)
                  have HH2 := Lib.hid (has_below HH2.out HP2.out hbl)
                  have HLN := Lib.hid (HLN.out.trans hbl)
                  have HTN := Lib.hid hnl
                  refine hK _ _ hS ?_
                  clear ho hgr hbl hnl
                  intro wq' hwq
                  subst hwq
                  clear hK
                  (try simp only [Act.put, List.setIfInBounds_toArray, List.set_cons_zero, List.set_cons_succ])
                  refine wpAnyK_take (fun _ => rfl) (fun _ _ _ h k => h.trans k) (fun _ _ h k => k ▸ h) (i := 15) (oi := { dst := some 5, op := _, type := _, pos := _, after := _, guard := _ }) (v := ?_) rfl (by kernel_rfl) (by kernel_rfl) (by kernel_rfl) (fun _ _ _ h => h) (Or.inl (Or.inl ⟨by rfl, ?_⟩)) hS ?_
                  rotate_left
                  focus ((intro w hSw; (try dsimp only at hSw); go_simp); (try with_reducible rfl))
                  intro wq' hwq
                  subst hwq
                  (try simp only [Act.put, List.setIfInBounds_toArray, List.set_cons_zero, List.set_cons_succ])
                  refine wpAnyK_done (by kernel_rfl) ?_ _
                  obtain ⟨tn, htn⟩ : ∃ tn, j + 1 + 0 = tn := ⟨_, rfl⟩
                  rw [htn] at HO54 ⊢
                  have HOF := Lib.hid (show v6.ownsRow w.heap.size 3 1 (.slice TA tn Tc) tn (zin (joinR a (b.take (k + 1)))) from by
                    have h := own_mono HO54.out HWS.out
                    rw [HT2.out, ← HC.out]
                    simpa [zin] using h)
                  have HOL := Lib.hid (show tn = (joinR a (b.take (k + 1))).length from by
                    have h := HOF.out.1
                    rw [zin_length] at h; omega)
                  have HLF := Lib.hid (show Later w v6 from Later.of ((HLAT.out.trans lW0).below.trans (HLN.out.mono HWS.out)))
                  clear hS htn lW0
                  go_wp2_with fail
                  go_roundw
                  all_goals first
                    | exact JnI.mk _ (k + 1) _ _ _ (by go_num) hkr HOL.out HOF.out HTN.out HLF.out
                    | (simp [intOf]; omega)
    · have htk : b.take k = b := List.take_of_length_le (by have := HM.out; omega)
      have h1 := HPN.out
      have h2 := HOWN.out
      rw [htk] at h1 h2
      have HR := Lib.hid (IntsP.mk (l := joinR a b) (n := pn) h1 h2 HNIL.out HLAT.out)
      clear h1 h2 htk
      clear lat
      go_wp2_with fail
      go_ret
      exact HR.out
end Go.Proofs.YtlfmmhbaphnifaaRRRRGreatDoor
