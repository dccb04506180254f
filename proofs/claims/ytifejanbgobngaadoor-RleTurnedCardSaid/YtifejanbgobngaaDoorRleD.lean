/- Walks of package rle: read, Take. -/
import Derived.Test.YtifejanbgobngaaDoorRleW
import Derived.Test.YtifejanbgobngaaDoorRleRun
import Derived.Test.YtifejanbgobngaaDoorLists
import Derived.Maps.AppendAt
namespace Go.Proofs.YtifejanbgobngaaDoor
open Go.RowKit
set_option linter.unusedVariables false

theorem wpList_append_h {P : Program} (w : World) {ops : Array Oper} {rest : List Oper} {o : Oper} {a : Act} {Q : Exit → Act → World → Prop} (hgd : o.guard = none) (s x : Operand) (t : TypeId)
    (ho : o.op = .call { callee := .builtin .append, args := #[s, x], argTypes := #[t, t] })
    (base : Nat) (e : TypeId) (z : Value) (size bytes : Nat) (ht : P.underlying t = some (.slice e)) (hinfo : (P.info? e).map (fun i => (i.zero, i.size, i.bytes)) = some (some z, size, bytes)) (hzs : z.cells.size = size) (hsz0 : 0 < size)
    (v : Value) (n : Nat) (xs : List Value) (hs : a.eval s = v) (hown : w.ownsRow base e size v n xs)
    (b off m c : Nat) (news : List Value) (hx : a.eval x = .slice (some ⟨b, off, none⟩) m c) (hr : Has w (some ⟨b, off, none⟩) news) (hm : news.length = m * size) (h1 : ∀ u ∈ news, u.oneCell' = true)
    (h63 : n + m ≤ maxLen) (hbytes : (n + m) * bytes ≤ 140737488355328) (hbase : base ≤ w.heap.size) (g3 : Nat) (hg3 : g3 < w.heap.size) (hne : v.ownBlock ≠ some g3)
    (h : ∀ A' c' w', w'.ownsRow base e size (.slice A' (n + m) c') (n + m) (xs ++ news) → Below base w w' → (Value.slice A' (n + m) c').ownBlock ≠ some g3 → w'.heap[g3]? = w.heap[g3]? → wpList P ops Q rest (a.put o.dst (.slice A' (n + m) c')) w') : wpList P ops Q (o :: rest) a w := by
  obtain ⟨i, hi, hz, hsz, hby⟩ := info_parts hinfo
  have hcells : ∀ j u, news[j]? = some u → w.cell? ((⟨b, off, none⟩ : Addr).add j) = some u := by
    intro j u hu
    rcases hr with h | ⟨b', off', h, _, hc⟩
    · subst h; simp at hu
    · injection h with h
      injection h with h1 h2
      subst h1 h2
      rw [add_plain]
      exact hc j u hu
  refine wpList_append_own_at w hgd s x t ho base e i z size bytes ht hi hz hsz hby hzs hsz0 v n xs hs hown ⟨b, off, none⟩ m c news hx hm hcells h1 h63 hbytes hbase fun v' w' h2 h3 _ hat => ?_
  obtain ⟨A', c', hv, hc'⟩ := ownG_shape h2
  subst hv
  refine h A' c' w' h2 ((Below.refl _ _).grown h3 hbase fun k hk => (hown.lt k hk).1) ?_ (h3.block g3 hg3 (fun e => hne e.symm))
  rcases hat with e | e
  · rw [e]; exact hne
  · rw [e]; intro e2; injection e2 with e2; omega

theorem readR_fuel (t : Int) (ht : 1 ≤ t ∧ t ≤ 4) : ∀ (f g m : Nat) (last : Option Val3) (b : List Nat), (∀ x ∈ b, x < 256) → b.length ≤ f → b.length ≤ g → readR t f m last b = readR t g m last b
  | f, g, m, last, [], _, _, _ => by cases f <;> cases g <;> rfl
  | 0, _, _, _, _ :: _, _, h, _ => by simp at h
  | _, 0, _, _, _ :: _, _, _, h => by simp at h
  | f + 1, g + 1, m, last, c :: b, hb, h1, h2 => by
    unfold readR
    cases hT : takeNum (c :: b) with
    | none => rfl
    | some q =>
      obtain ⟨u, k⟩ := q
      obtain ⟨_, hk, _⟩ := takeNum_is hb hT
      have hk1 := putNum_pos u
      simp only
      split
      · cases hC : takeC t ((c :: b).drop k) with
        | none => rfl
        | some q =>
          obtain ⟨i, s, j⟩ := q
          simp only
          split
          · rfl
          · rw [readR_fuel t ht f g _ _ ((c :: b).drop (k + j)) (fun x hx => hb x (List.mem_of_mem_drop hx)) (by rw [List.length_drop]; omega) (by rw [List.length_drop]; omega)]
      · rfl
/-- .. with fuel enough. -/
def readRR (t : Int) (m : Nat) (last : Option Val3) (b : List Nat) : Option (List Val3) := readR t b.length m last b
theorem readRR_nil (t : Int) (m : Nat) (last : Option Val3) : readRR t m last [] = if m = 0 then some [] else none := rfl
theorem readRR_none {t : Int} {m : Nat} {last : Option Val3} {b : List Nat} (hb : 0 < b.length) (h : runS t m b = none) : readRR t m last b = none := by
  match b, hb, h with
  | c :: b, _, h =>
    unfold readRR
    show readR t (b.length + 1) m last (c :: b) = none
    unfold readR
    unfold runS at h
    cases hT : takeNum (c :: b) with
    | none => rfl
    | some q =>
      obtain ⟨u, k⟩ := q
      rw [hT] at h
      simp only at h ⊢
      split
      · rename_i hu
        rw [if_pos hu] at h
        cases hC : takeC t ((c :: b).drop k) with
        | none => rfl
        | some q =>
          obtain ⟨i, s, j⟩ := q
          rw [hC] at h; cases h
      · rfl
theorem runS_is {t : Int} (ht : 1 ≤ t ∧ t ≤ 4) {m : Nat} {b : List Nat} (hb : ∀ x ∈ b, x < 256) {u z : Nat} {i : Int} {s : List Nat} (h : runS t m b = some (u, i, s, z)) : 1 ≤ u ∧ u ≤ m ∧ 1 ≤ z ∧ z ≤ b.length ∧ MayV t i (bstr s).size ∧ In64 i := by
  unfold runS at h
  split at h
  · rename_i u' k hT
    obtain ⟨_, hk, hk3⟩ := takeNum_is hb hT
    have hk1 := putNum_pos u'
    have hk2 := hk3.length_le
    split at h
    · rename_i hu
      split at h
      · rename_i i' s' j hC
        cases h
        obtain ⟨h1, h2⟩ := takeC_read hC
        obtain ⟨h3, h4, h5, _⟩ := readC_lt (fun x hx => hb x (List.mem_of_mem_drop hx)) h1
        rw [List.length_drop] at h4
        exact ⟨hu.1, hu.2, by omega, by omega, by rw [bstr_size]; exact h2, h5⟩
      · cases h
    · cases h
  · cases h
theorem readRR_some {t : Int} (ht : 1 ≤ t ∧ t ≤ 4) {m : Nat} {last : Option Val3} {b : List Nat} (hb : ∀ x ∈ b, x < 256) (hpos : 0 < b.length) {u z : Nat} {i : Int} {s : List Nat} (h : runS t m b = some (u, i, s, z)) :
    readRR t m last b = if last = some (t, i, bstr s) then none else (readRR t (m - u) (some (t, i, bstr s)) (b.drop z)).map fun l => List.replicate u (t, i, bstr s) ++ l := by
  match b, hpos, hb, h with
  | c :: b, _, hb, h =>
    unfold runS at h
    split at h
    · rename_i u' k hT
      obtain ⟨_, hk, _⟩ := takeNum_is hb hT
      have hk1 := putNum_pos u'
      split at h
      · rename_i hu
        split at h
        · rename_i i' s' j hC
          cases h
          unfold readRR
          show readR t (b.length + 1) m last (c :: b) = _
          conv => lhs; unfold readR
          rw [hT]
          simp only
          rw [if_pos hu, hC]
          simp only
          rw [readR_fuel t ht b.length ((c :: b).drop (k + j)).length _ _ ((c :: b).drop (k + j)) (fun x hx => hb x (List.mem_of_mem_drop hx)) (by rw [List.length_drop, List.length_cons]; omega) (Nat.le_refl _)]
        · cases h
      · cases h
    · cases h

def RdInv (o : Option (List Val3)) (t : Int) (n : Nat) (w : World) (lv bv : Value) (wr : World) : Prop :=
  ∃ (L : Option Addr) (cl : Nat) (done : List Val3) (B : Option Addr) (cb : Nat) (rest : List Nat), lv = .slice L done.length cl ∧ bv = .slice B rest.length cb ∧ wr.ownsRow w.heap.size 26 3 (.slice L done.length cl) done.length (fl done) ∧ OkL t done ∧ done.length ≤ n ∧ Has w B (ints .u8 rest) ∧ (∀ x ∈ rest, x < 256) ∧ rest.length ≤ 1000000 ∧ rest.length ≤ cb ∧ cb ≤ 9223372036854775807 ∧ o = (readRR t (n - done.length) done.getLast? rest).map (fun l => done ++ l) ∧ Later w wr
theorem RdInv.mk {o : Option (List Val3)} {t : Int} {n : Nat} {w wr : World} (L : Option Addr) (cl m : Nat) (done : List Val3) (B : Option Addr) (cb mb : Nat) (rest : List Nat) (hm : m = done.length) (hmb : mb = rest.length) (h1 : wr.ownsRow w.heap.size 26 3 (.slice L m cl) m (fl done)) (h2 : OkL t done) (h3 : done.length ≤ n) (h4 : Has w B (ints .u8 rest)) (h5 : ∀ x ∈ rest, x < 256) (h6 : rest.length ≤ 1000000) (h7 : rest.length ≤ cb) (h8 : cb ≤ 9223372036854775807) (h9 : o = (readRR t (n - done.length) done.getLast? rest).map (fun l => done ++ l)) (h10 : Later w wr) : RdInv o t n w (.slice L m cl) (.slice B mb cb) wr := by
  subst hm hmb
  exact ⟨L, cl, done, B, cb, rest, rfl, rfl, h1, h2, h3, h4, h5, h6, h7, h8, h9, h10⟩
def RIn (t : Int) (done : List Val3) (u : Nat) (v : Val3) (base g3 : Nat) (w wq : World) (lv iv : Value) (wi : World) : Prop :=
  ∃ (L : Option Addr) (cl j : Nat), lv = .slice L (done ++ List.replicate j v).length cl ∧ iv = .int .i64 (j : Int) ∧ j ≤ u ∧ wi.ownsRow base 26 3 (.slice L (done ++ List.replicate j v).length cl) (done ++ List.replicate j v).length (fl (done ++ List.replicate j v)) ∧ (Value.slice L (done ++ List.replicate j v).length cl).ownBlock ≠ some g3 ∧ Blk wi g3 #[.int .i64 v.1, .int .i64 v.2.1, .string v.2.2] 26 ∧ Later w wi
theorem RIn.mk {t : Int} {done : List Val3} {u : Nat} {v : Val3} {base g3 : Nat} {w wq wi : World} (L : Option Addr) (cl m j : Nat) (jj : Int) (hm : m = (done ++ List.replicate j v).length) (hj : jj = (j : Int)) (h1 : j ≤ u) (h2 : wi.ownsRow base 26 3 (.slice L m cl) m (fl (done ++ List.replicate j v))) (h3 : (Value.slice L m cl).ownBlock ≠ some g3) (h4 : Blk wi g3 #[.int .i64 v.1, .int .i64 v.2.1, .string v.2.2] 26) (h5 : Later w wi) : RIn t done u v base g3 w wq (.slice L m cl) (.int .i64 jj) wi := by
  subst hm hj
  exact ⟨L, cl, j, rfl, rfl, h1, h2, h3, h4, h5⟩

set_option maxRecDepth 100000 in
set_option maxHeartbeats 2000000 in
theorem rleRead_yes (t : Int) (n : Nat) (A : Option Addr) (c : Nat) (b : List Nat) (w : World) (hs : S6 w) (ht : 1 ≤ t ∧ t ≤ 4) (hn : n ≤ 1000) (hr : Has w A (ints .u8 b)) (h256 : ∀ x ∈ b, x < 256) (hb : b.length ≤ 1000000) (hbc : b.length ≤ c) (hc : c ≤ 9223372036854775807) :
    Calls Tryd.prog 41 #[.int .i64 t, .int .i64 n, .slice A b.length c] w (WritesV (readRR t n none b) w) := by
  have hif : Tryd.prog.isIface 50 = true := by kernel_rfl
  have HC := Lib.hid (count_yes t n w ht (by omega))
  obtain ⟨o, ho⟩ : ∃ o, o = readRR t n none b := ⟨_, rfl⟩
  rw [← ho]
  have HT := Lib.hid ht
  have REL := Lib.hid (show o = (readRR t (n - 0) ([] : List Val3).getLast? b).map (fun l => [] ++ l) by rw [ho]; simp)
  clear ht ho
  go_enter Tryd.func41, Tryd.ntmps41
  go_wp2_with (go_at_call 51; refine HC.out.mono ?_; rintro e w' ⟨rfl, rfl⟩)
  clear HC
  go_loopw [9, 2] (fun lv bv wr => RdInv o t n w lv bv wr) (fun _ bv _ => lenV bv)
  case atStart => exact RdInv.mk none 0 0 [] A c _ b rfl rfl (ownG_nil _ _ _ _) (fun x hx => by cases hx) (Nat.zero_le _) hr h256 hb hbc hc REL.out (Later.refl _)
  case round =>
    obtain ⟨L, cl, done, B, cb, rest, rfl, rfl, hown, hok, hdn, hrest, hr256, hrl, hrc, hcb, hrel, lat⟩ := hrel
    clear hr h256 hb hbc hc REL
    obtain ⟨k, hk⟩ : ∃ k, k = done.length := ⟨_, rfl⟩
    obtain ⟨m, hm⟩ : ∃ m, m = rest.length := ⟨_, rfl⟩
    have HDL := Lib.hid hk
    have HML := Lib.hid hm
    have HRR := Lib.hid (fun mm (h : mm = n - k) => readRun_any t HT.out mm (by omega) B cb rest wr (hs.later lat) (hrest.later lat) hr256 hrl hrc hcb)
    rw [← hk] at hown hdn hrel ⊢
    rw [← hm] at hrl hrc HRR ⊢
    have HOWN := Lib.hid hown
    have HOK := Lib.hid hok
    have HREST := Lib.hid hrest
    have H256 := Lib.hid hr256
    have HREL := Lib.hid hrel
    have HLAT := Lib.hid lat
    clear hown hok hrest hr256 hrel lat hk hm
    by_cases hpos : 0 < m
    · obtain ⟨mm, hmm⟩ : ∃ mm, mm = n - k := ⟨_, rfl⟩
      have hsub : (n : Int) - (k : Int) = (mm : Int) := by omega
      have HRN := Lib.hid (HRR.out mm hmm)
      have HMM := Lib.hid hmm
      clear hmm HRR
      go_wp2_with fail
      refine HRN.out.mono ?_
      rintro e w2 ⟨⟨hS, t', i', c', z', s', p, rfl⟩ | ⟨u, i, s, z, hS, rfl⟩, l2⟩
      · have HO := Lib.hid (show o = none by
          rw [HREL.out, ← HMM.out, readRR_none (by have := HML.out; omega) hS]; rfl)
        have heq := fun w => run_eql_iface_nil (P := Tryd.prog) (w := w) 50 hif 90 (.pointer (some p))
        have HL2 := Lib.hid (HLAT.out.trans l2)
        clear hS l2
        go_wp2_with (go_at_call 53; refine (at_w _ _ _ _).mono ?_; rintro e w3 ⟨q, rfl, l3⟩)
        go_ret2
        exact ⟨.inl ⟨HO.out, q, rfl⟩, (HL2.out.alloc _).trans l3⟩
      · obtain ⟨hu1, hum, hz1, hzl, hmay, hi64⟩ := runS_is HT.out H256.out hS
        rw [← HML.out] at hzl
        have HSTEP := Lib.hid (show o = (if done.getLast? = some (t, i, bstr s) then none else (readRR t (mm - u) (some (t, i, bstr s)) (rest.drop z)).map fun l => List.replicate u (t, i, bstr s) ++ l).map (fun l => done ++ l) by
          rw [HREL.out, ← HMM.out, readRR_some HT.out H256.out (by have := HML.out; omega) hS])
        obtain ⟨S, hSS⟩ : ∃ S, S = bstr s := ⟨_, rfl⟩
        rw [← hSS] at HSTEP hmay ⊢
        obtain ⟨rd, hrd⟩ : ∃ rd, rd = rest.drop z := ⟨_, rfl⟩
        rw [← hrd] at HSTEP
        have HDRL := Lib.hid (show rd.length = m - z by rw [hrd, List.length_drop, ← HML.out])
        have HD256 := Lib.hid (show ∀ x ∈ rd, x < 256 from fun x hx => H256.out x (by rw [hrd] at hx; exact List.mem_of_mem_drop hx))
        obtain ⟨bb, off, rfl⟩ : ∃ bb off, B = some ⟨bb, off, none⟩ := by
          rcases HREST.out with h | ⟨bb, off, h, _⟩
          · have : rest.length = 0 := by have := congrArg List.length h; rw [ints_length] at this; exact this
            have := HML.out; omega
          · exact ⟨bb, off, h⟩
        have HRD := Lib.hid (show Has w (some ⟨bb, off + z, none⟩) (ints .u8 rd) from by have h := HREST.out.drop z; rw [show (ints .u8 rest).drop z = ints .u8 (rest.drop z) by simp [ints, List.map_drop], ← hrd] at h; exact h)
        have hu1000 : u ≤ 1000 := by have := HMM.out; omega
        have HOKN := Lib.hid (show OkL t (done ++ List.replicate u (t, i, S)) from fun x hx => by
          rcases List.mem_append.1 hx with hx | hx
          · exact HOK.out x hx
          · rw [(List.mem_replicate.1 hx).2]; exact ⟨rfl, hmay⟩)
        have HLEN := Lib.hid (show (done ++ List.replicate u (t, i, S)).length ≤ n by rw [List.length_append, List.length_replicate, ← HDL.out]; have := HMM.out; omega)
        have HNEW := Lib.hid (fun (hne : done.getLast? ≠ some (t, i, S)) => (show o = (readRR t (n - (done ++ List.replicate u (t, i, S)).length) (done ++ List.replicate u (t, i, S)).getLast? rd).map (fun l => (done ++ List.replicate u (t, i, S)) ++ l) from by
          rw [HSTEP.out, if_neg hne]
          have e1 : n - (done ++ List.replicate u (t, i, S)).length = mm - u := by rw [List.length_append, List.length_replicate, ← HDL.out]; have := HMM.out; omega
          have e2 : (done ++ List.replicate u (t, i, S)).getLast? = some (t, i, S) := by
            obtain ⟨q, rfl⟩ : ∃ q, u = q + 1 := ⟨u - 1, by omega⟩
            rw [List.replicate_succ', ← List.append_assoc, List.getLast?_append]; rfl
          rw [e1, e2]
          cases readRR t (mm - u) (some (t, i, S)) rd with
          | none => rfl
          | some l => simp))
        have HSAME := Lib.hid (fun (he : done.getLast? = some (t, i, S)) => (show o = none from by rw [HSTEP.out, if_pos he]; rfl))
        obtain ⟨w3, hw3⟩ : ∃ w3, w3 = w2.alloc (.cells #[.int .i64 t, .int .i64 i, .string S] 26) := ⟨_, rfl⟩
        have l3 : Later w2 w3 := hw3 ▸ Later.new _ _
        have V3 : Blk w3 w2.heap.size #[.int .i64 t, .int .i64 i, .string S] 26 := hw3 ▸ Blk.new w2 _ _ _ rfl
        have OWN2 := own_later HOWN.out l2
        have OWN3 := own_later OWN2 l3
        obtain ⟨g3, hg3⟩ : ∃ g3, g3 = w2.heap.size := ⟨_, rfl⟩
        have NB3 : (Value.slice L k cl).ownBlock ≠ some g3 := fun e => by have := (OWN2.lt g3 e).2; omega
        rw [← hg3] at V3
        have HL3 := Lib.hid (HLAT.out.trans (l2.trans l3))
        have HW3 := Lib.hid hw3
        have HG3 := Lib.hid hg3
        have HMAY := Lib.hid hmay
        clear hS HSTEP hSS hrd hw3 hg3 l2 l3 OWN2 hmay hi64 HRN HLAT HOWN HREL
        by_cases hk0 : k = 0
        · have hd0 : done = [] := List.eq_nil_of_length_eq_zero (by have := HDL.out; omega)
          have HRELN := Lib.hid (HNEW.out (by rw [hd0]; simp))
          subst hk0
          have HV := Lib.hid V3
          have HO3 := Lib.hid OWN3
          have HN3 := Lib.hid NB3
          clear HNEW HSAME hd0 OWN3 NB3 V3
          go_wp2_with fail
          rw [← HW3.out, ← HG3.out]
          go_quiet (fail)
          rename_i nq
          go_wp2_with fail
          obtain ⟨wq, hwq⟩ : ∃ wq, wq = w3.drewN nq := ⟨_, rfl⟩
          have l4 : Later w3 wq := hwq ▸ (Later.refl w3).drewN nq
          have HVQ := Lib.hid (HV.out.later l4)
          have HOWNQ := Lib.hid (own_later HO3.out l4)
          have HNBQ := HN3
          have HLQ := Lib.hid (HL3.out.trans l4)
          rw [← hwq]
          clear hwq l4
          have LQ0 := Lib.hid (Later.refl wq)
          go_loopw [9, 60] (fun lv iv wi => RIn t done u (t, i, S) w.heap.size g3 w wq lv iv wi) (fun _ iv _ => u - (intOf iv).toNat)
          case atStart => exact RIn.mk (done := done) (u := u) (v := (t, i, S)) L cl 0 0 0 (by rw [List.replicate_zero, List.append_nil]; exact HDL.out) rfl (Nat.zero_le _) (by rw [List.replicate_zero, List.append_nil]; exact HOWNQ.out) HNBQ.out HVQ.out HLQ.out
          case round =>
            obtain ⟨L2, cl2, j, rfl, rfl, hju, hown2, hnb2, hv2, lat2⟩ := hrel
            by_cases hj : j < u
            · have v0 := hv2.cell 0 _ rfl
              have v1 := hv2.cell 1 _ rfl
              have v2 := hv2.cell 2 _ rfl
              obtain ⟨m2, hm2⟩ : ∃ m2, m2 = (done ++ List.replicate j (t, i, S)).length := ⟨_, rfl⟩
              rw [← hm2] at hown2 hnb2 ⊢
              have hm2le : m2 ≤ 2000 := by rw [hm2, List.length_append, List.length_replicate]; have := HDL.out; omega
              have HAS := Lib.hid ((Blk.new wr (fl [(t, i, S)]).toArray 26 _ rfl).has)
              have O2 := Lib.hid (hown2.alloc (.cells (fl [(t, i, S)]).toArray 26))
              have LT2 := Lib.hid (lat2.alloc (.cells (fl [(t, i, S)]).toArray 26))
              have V2 := Lib.hid (hv2.later (Later.new wr (.cells (fl [(t, i, S)]).toArray 26)))
              have NB2 := Lib.hid hnb2
              have HM2 := Lib.hid hm2
              have HREP := Lib.hid (show done ++ List.replicate (j + 1) (t, i, S) = (done ++ List.replicate j (t, i, S)) ++ [(t, i, S)] by rw [List.replicate_succ', List.append_assoc])
              clear hown2 hnb2 hv2 lat2 hm2
              go_wp2_with (at_builtin; refine wpList_append_h _ rfl (.tmp 62) (.tmp 64) 23 rfl w.heap.size 26 (vagg 0 0 ⟨#[]⟩) 3 32 Tryd.underlying23 info_v rfl (by decide) _ m2 (fl (done ++ List.replicate j (t, i, S))) rfl O2.out _ _ 1 1 (fl [(t, i, S)]) rfl HAS.out (by rfl) (fl_one _) (by unfold maxLen; omega) (by omega) LT2.out.size g3 V2.out.lt NB2.out ?_; intro A2 c2 w6 o2 b2 nb6 hv6; have HO2 := Lib.hid o2; have HB6 := Lib.hid b2; have NB6 := Lib.hid nb6; have V6 := Lib.hid (show Blk w6 g3 #[.int .i64 t, .int .i64 i, .string S] 26 from hv6.trans V2.out); clear o2 b2 nb6 hv6)
              go_roundw
              case rel => exact RIn.mk (done := done) (u := u) (v := (t, i, S)) A2 c2 _ (j + 1) _ (by rw [HREP.out, List.length_append, HM2.out]; rfl) (by omega) hj (by rw [HREP.out, fl_append]; exact HO2.out) NB6.out V6.out (Later.of (LT2.out.below.trans HB6.out))
              case measure => simp [intOf]; omega
            · obtain rfl : j = u := by omega
              obtain ⟨m2, hm2⟩ : ∃ m2, m2 = (done ++ List.replicate j (t, i, S)).length := ⟨_, rfl⟩
              rw [← hm2] at hown2 hnb2 ⊢
              have OZ := Lib.hid hown2
              have LZ := Lib.hid lat2
              have HM2 := Lib.hid hm2
              clear hown2 hnb2 hv2 lat2 hm2
              by_cases hcz : cb = z
              · have h1 : z = cb := hcz.symm
                subst h1
                have hrd0 : rd = [] := List.eq_nil_of_length_eq_zero (by have := HDRL.out; omega)
                have hml : m = z := by omega
                have HF := Lib.hid (fun B' => RdInv.mk (o := o) (t := t) (n := n) (w := w) (wr := wr) L2 cl2 m2 (done ++ List.replicate j (t, i, S)) B' 0 0 rd HM2.out (by rw [hrd0]; rfl) OZ.out HOKN.out HLEN.out (by rw [hrd0]; exact Has.nil_) HD256.out (by rw [hrd0]; exact Nat.zero_le _) (by rw [hrd0]; exact Nat.zero_le _) (by decide) HRELN.out LZ.out)
                clear hrd0 hcz
                subst hml
                go_wp2_with fail
                go_roundw
                case rel => exact HF.out _
                case measure => simp [lenV]; omega
              · have HF := Lib.hid (RdInv.mk (o := o) (t := t) (n := n) (w := w) (wr := wr) L2 cl2 m2 (done ++ List.replicate j (t, i, S)) (some ⟨bb, off + z, none⟩) (cb - z) (m - z) rd HM2.out HDRL.out.symm OZ.out HOKN.out HLEN.out HRD.out HD256.out (by have := HDRL.out; omega) (by have := HDRL.out; omega) (by omega) HRELN.out LZ.out)
                go_wp2_with fail
                go_roundw
                case rel => exact HF.out
                case measure => simp [lenV]; omega
        · obtain ⟨k', hkk⟩ : ∃ k', k = k' + 1 := ⟨k - 1, by omega⟩
          have HKK := Lib.hid hkk
          have hi2 : (k' : Int) < (k : Int) := by omega
          have hi4 : k' < k := by omega
          have hk1 : (k : Int) - 1 = (k' : Int) := by omega
          have hkd : decide ((0 : Int) < (k : Int)) = true := decide_eq_true (by omega)
          have hkd2 : 0 < k := by omega
          have hk1000 : k' ≤ 1000 := by omega
          have hw1 : IntKind.i64.wrap (k' : Int) = (k' : Int) := IntWalk.i64_in _ ⟨by omega, by omega⟩
          have hw2 : IntKind.i64.wrap ((k : Int) - 1) = (k' : Int) := by rw [hk1]; exact hw1
          have hi1 : (0 : Int) ≤ (k' : Int) := by omega
          have hkl : k' < done.length := by have := HDL.out; omega
          clear hkk hk0
          obtain ⟨bl, ol, hadr, c0, c1, c2⟩ := (Has.ownG OWN3).val3 k' hkl
          subst hadr
          have hlast : done.getLast? = some done[k'] := by
            rw [List.getLast?_eq_getElem?, show done.length - 1 = k' by have := HDL.out; have := HKK.out; omega, List.getElem?_eq_getElem hkl]
          obtain ⟨ho1, ho2⟩ := HOK.out _ (List.getElem_mem hkl)
          rw [hlast] at HNEW HSAME
          clear hlast
          generalize done[k'] = last at c0 c1 c2 ho1 ho2 HNEW HSAME
          obtain ⟨tl, il, sl⟩ := last
          dsimp only at c0 c1 c2 ho1 ho2
          subst ho1
          obtain ⟨zz, hzz⟩ : ∃ zz, zz = cmpV tl il sl tl i S := ⟨_, rfl⟩
          have HZ := Lib.hid (show zz = 0 ↔ (il, sl) = (i, S) by rw [hzz]; exact cmpV_ok HT.out ho2 HMAY.out)
          have HCMP := Lib.hid (fun w' => (valCmp_any tl il sl tl i S w').mono fun e w'' (h : TellsInt _ _ _ _) => (show e = .returned (.int .i64 zz) ∧ Later w' w'' from by rw [hzz]; exact h))
          have e0 := (show CellIs w3 ⟨bl, ol + k' * 3, none⟩ (.int .i64 tl) from c0).drew
          have e1 := (show CellIs w3 ⟨bl, ol + k' * 3 + 1, none⟩ (.int .i64 il) from c1).drew
          have e2 := (show CellIs w3 ⟨bl, ol + k' * 3 + 2, none⟩ (.string sl) from c2).drew
          have g0 := (show CellIs w3 ⟨g3, 0, none⟩ (.int .i64 tl) from V3.cell 0 _ rfl).drew
          have g1 := (show CellIs w3 ⟨g3, 1, none⟩ (.int .i64 i) from V3.cell 1 _ rfl).drew
          have g2 := (show CellIs w3 ⟨g3, 2, none⟩ (.string S) from V3.cell 2 _ rfl).drew
          have lz := (Later.refl w3).drew
          have HV := Lib.hid V3
          have HO3 := Lib.hid OWN3
          have HN3 := Lib.hid NB3
          have HS3 := Lib.hid (hs.later HL3.out)
          have hi1 : (0 : Int) ≤ (k' : Int) := by omega
          clear hzz c0 c1 c2 ho2 OWN3 NB3 V3 hkl
          by_cases hz0 : zz = 0
          · have HO := Lib.hid (HSAME.out (by have h := HZ.out.1 hz0; have h1 := congrArg Prod.fst h; have h2 := congrArg Prod.snd h; dsimp only at h1 h2; rw [h1, h2]))
            subst hz0
            go_wp2_with fail
            rw [← HW3.out, ← HG3.out]
            first
              | go_region_held3 (fun w' => w'.cell? ⟨bl, ol + k' * 3, none⟩ = some (.int .i64 tl) ∧ w'.cell? ⟨bl, ol + k' * 3 + 1, none⟩ = some (.int .i64 il) ∧ w'.cell? ⟨bl, ol + k' * 3 + 2, none⟩ = some (.string sl) ∧ w'.cell? ⟨g3, 0, none⟩ = some (.int .i64 tl) ∧ w'.cell? ⟨g3, 1, none⟩ = some (.int .i64 i) ∧ w'.cell? ⟨g3, 2, none⟩ = some (.string S)) (exact ⟨e0.out, e1.out, e2.out, g0.out, g1.out, g2.out⟩) (first | (go_at_call 62; refine (HCMP.out _).mono ?_; rintro e wX ⟨rfl, lX⟩; have lz := lz.trans lX; have e0 := e0.later lX; have e1 := e1.later lX; have e2 := e2.later lX; have g0 := g0.later lX; have g1 := g1.later lX; have g2 := g2.later lX; clear lX))
              | fail "no walk"
            all_goals obtain ⟨sa, hsp⟩ := (HS3.out.later lz).spare
            all_goals go_wp2_with (go_at_call 53; refine (at_l _ _ _ _).mono ?_; rintro e w5 ⟨q, rfl, l5⟩)
            all_goals go_ret2
            all_goals exact ⟨.inl ⟨HO.out, q, rfl⟩, (HL3.out.trans lz).trans l5⟩
          · have HRELN := Lib.hid (HNEW.out (fun h => hz0 (HZ.out.2 (by injection h with h; have h1 := congrArg (fun p => p.2.1) h; have h2 := congrArg (fun p => p.2.2) h; dsimp only at h1 h2; rw [h1, h2]))))
            have hzb : (zz == 0) = false := by rw [beq_eq_false_iff_ne]; exact hz0
            clear hz0 HNEW HSAME
            go_wp2_with fail
            rw [← HW3.out, ← HG3.out]
            first
              | go_region_held3 (fun w' => w'.cell? ⟨bl, ol + k' * 3, none⟩ = some (.int .i64 tl) ∧ w'.cell? ⟨bl, ol + k' * 3 + 1, none⟩ = some (.int .i64 il) ∧ w'.cell? ⟨bl, ol + k' * 3 + 2, none⟩ = some (.string sl) ∧ w'.cell? ⟨g3, 0, none⟩ = some (.int .i64 tl) ∧ w'.cell? ⟨g3, 1, none⟩ = some (.int .i64 i) ∧ w'.cell? ⟨g3, 2, none⟩ = some (.string S)) (exact ⟨e0.out, e1.out, e2.out, g0.out, g1.out, g2.out⟩) (first | (go_at_call 62; refine (HCMP.out _).mono ?_; rintro e wX ⟨rfl, lX⟩; have lz := lz.trans lX; have e0 := e0.later lX; have e1 := e1.later lX; have e2 := e2.later lX; have g0 := g0.later lX; have g1 := g1.later lX; have g2 := g2.later lX; clear lX))
              | fail "no walk"
            all_goals go_wp2_with fail
            have HVQ := Lib.hid (HV.out.later lz)
            have HOWNQ := Lib.hid (own_later HO3.out lz)
            have HNBQ := HN3
            have HLQ := Lib.hid (HL3.out.trans lz)
            clear e0 e1 e2 g0 g1 g2 lz
            have LQ0 := Lib.hid (Later.refl wX)
            go_loopw [9, 60] (fun lv iv wi => RIn tl done u (tl, i, S) w.heap.size g3 w wX lv iv wi) (fun _ iv _ => u - (intOf iv).toNat)
            case atStart => exact RIn.mk (done := done) (u := u) (v := (tl, i, S)) _ cl k 0 0 (by rw [List.replicate_zero, List.append_nil]; exact HDL.out) rfl (Nat.zero_le _) (by rw [List.replicate_zero, List.append_nil]; exact HOWNQ.out) HNBQ.out HVQ.out HLQ.out
            case round =>
              obtain ⟨L2, cl2, j, rfl, rfl, hju, hown2, hnb2, hv2, lat2⟩ := hrel
              by_cases hj : j < u
              · have v0 := hv2.cell 0 _ rfl
                have v1 := hv2.cell 1 _ rfl
                have v2 := hv2.cell 2 _ rfl
                obtain ⟨m2, hm2⟩ : ∃ m2, m2 = (done ++ List.replicate j (tl, i, S)).length := ⟨_, rfl⟩
                rw [← hm2] at hown2 hnb2 ⊢
                have hm2le : m2 ≤ 2000 := by rw [hm2, List.length_append, List.length_replicate]; have := HDL.out; omega
                have HAS := Lib.hid ((Blk.new wr (fl [(tl, i, S)]).toArray 26 _ rfl).has)
                have O2 := Lib.hid (hown2.alloc (.cells (fl [(tl, i, S)]).toArray 26))
                have LT2 := Lib.hid (lat2.alloc (.cells (fl [(tl, i, S)]).toArray 26))
                have V2 := Lib.hid (hv2.later (Later.new wr (.cells (fl [(tl, i, S)]).toArray 26)))
                have NB2 := Lib.hid hnb2
                have HM2 := Lib.hid hm2
                have HREP := Lib.hid (show done ++ List.replicate (j + 1) (tl, i, S) = (done ++ List.replicate j (tl, i, S)) ++ [(tl, i, S)] by rw [List.replicate_succ', List.append_assoc])
                clear hown2 hnb2 hv2 lat2 hm2
                go_wp2_with (at_builtin; refine wpList_append_h _ rfl (.tmp 62) (.tmp 64) 23 rfl w.heap.size 26 (vagg 0 0 ⟨#[]⟩) 3 32 Tryd.underlying23 info_v rfl (by decide) _ m2 (fl (done ++ List.replicate j (tl, i, S))) rfl O2.out _ _ 1 1 (fl [(tl, i, S)]) rfl HAS.out (by rfl) (fl_one _) (by unfold maxLen; omega) (by omega) LT2.out.size g3 V2.out.lt NB2.out ?_; intro A2 c2 w6 o2 b2 nb6 hv6; have HO2 := Lib.hid o2; have HB6 := Lib.hid b2; have NB6 := Lib.hid nb6; have V6 := Lib.hid (show Blk w6 g3 #[.int .i64 tl, .int .i64 i, .string S] 26 from hv6.trans V2.out); clear o2 b2 nb6 hv6)
                go_roundw
                case rel => exact RIn.mk (done := done) (u := u) (v := (tl, i, S)) A2 c2 _ (j + 1) _ (by rw [HREP.out, List.length_append, HM2.out]; rfl) (by omega) hj (by rw [HREP.out, fl_append]; exact HO2.out) NB6.out V6.out (Later.of (LT2.out.below.trans HB6.out))
                case measure => simp [intOf]; omega
              · obtain rfl : j = u := by omega
                obtain ⟨m2, hm2⟩ : ∃ m2, m2 = (done ++ List.replicate j (tl, i, S)).length := ⟨_, rfl⟩
                rw [← hm2] at hown2 hnb2 ⊢
                have OZ := Lib.hid hown2
                have LZ := Lib.hid lat2
                have HM2 := Lib.hid hm2
                clear hown2 hnb2 hv2 lat2 hm2
                by_cases hcz : cb = z
                · have h1 : z = cb := hcz.symm
                  subst h1
                  have hrd0 : rd = [] := List.eq_nil_of_length_eq_zero (by have := HDRL.out; omega)
                  have hml : m = z := by omega
                  have HF := Lib.hid (fun B' => RdInv.mk (o := o) (t := tl) (n := n) (w := w) (wr := wr) L2 cl2 m2 (done ++ List.replicate j (tl, i, S)) B' 0 0 rd HM2.out (by rw [hrd0]; rfl) OZ.out HOKN.out HLEN.out (by rw [hrd0]; exact Has.nil_) HD256.out (by rw [hrd0]; exact Nat.zero_le _) (by rw [hrd0]; exact Nat.zero_le _) (by decide) HRELN.out LZ.out)
                  clear hrd0 hcz
                  subst hml
                  go_wp2_with fail
                  go_roundw
                  case rel => exact HF.out _
                  case measure => simp [lenV]; omega
                · have HF := Lib.hid (RdInv.mk (o := o) (t := tl) (n := n) (w := w) (wr := wr) L2 cl2 m2 (done ++ List.replicate j (tl, i, S)) (some ⟨bb, off + z, none⟩) (cb - z) (m - z) rd HM2.out HDRL.out.symm OZ.out HOKN.out HLEN.out HRD.out HD256.out (by have := HDRL.out; omega) (by have := HDRL.out; omega) (by omega) HRELN.out LZ.out)
                  go_wp2_with fail
                  go_roundw
                  case rel => exact HF.out
                  case measure => simp [lenV]; omega
    · obtain rfl : rest = [] := List.eq_nil_of_length_eq_zero (by have := HML.out; omega)
      obtain rfl : m = 0 := by omega
      have HR0 := Lib.hid HREL.out
      have HO3 := Lib.hid (Has.ownG HOWN.out)
      obtain ⟨sa, hsh⟩ := (hs.later HLAT.out).short
      by_cases hkn : k < n
      · have HO := Lib.hid (show o = none by rw [HREL.out, readRR_nil, if_neg (by omega)]; rfl)
        clear HRR
        go_wp2_with (go_at_call 53; refine (at_l _ _ _ _).mono ?_; rintro e w3 ⟨q, rfl, l3⟩)
        go_ret2
        exact ⟨.inl ⟨HO.out, q, rfl⟩, HLAT.out.trans l3⟩
      · have HO := Lib.hid (show o = some done by rw [HREL.out, readRR_nil, if_pos (by omega)]; show some (done ++ []) = _; rw [List.append_nil])
        clear HRR
        go_wp2_with fail
        go_ret2
        refine ⟨.inr ⟨done, L, cl, HO.out, ?_, HO3.out⟩, HLAT.out⟩
        rw [← HDL.out]
        rfl

set_option maxRecDepth 100000 in
theorem rleRead_no (t n : Int) (A : Option Addr) (m c : Nat) (w : World) (hs : S6 w) (h : ¬ ((1 ≤ t ∧ t ≤ 4) ∧ 0 ≤ n ∧ n ≤ 1000)) :
    Calls Tryd.prog 41 #[.int .i64 t, .int .i64 n, .slice A m c] w (WritesV none w) := by
  have hif : Tryd.prog.isIface 50 = true := by kernel_rfl
  have HA := Lib.hid (count_no t n w h hs.type hs.bound)
  clear hs h
  go_enter Tryd.func41, Tryd.ntmps41
  go_wp2_with fail
  refine HA.out.mono ?_
  rintro e w1 ⟨v, rfl, ⟨p, rfl⟩, l1⟩
  have heq := run_eql_iface_nil (P := Tryd.prog) (w := w1) 50 hif 90 (.pointer (some p))
  go_wp2_with fail
  go_ret2
  exact ⟨.inl ⟨rfl, p, rfl⟩, l1⟩

set_option maxRecDepth 100000 in
theorem rleTake_any (t n : Int) (A : Option Addr) (c : Nat) (b : List Nat) (w : World) (hs : S6 w) (hr : Has w A (ints .u8 b)) (h256 : ∀ x ∈ b, x < 256) (hb : b.length ≤ 1000000) (hbc : b.length ≤ c) (hc : c ≤ 9223372036854775807) :
    Calls Tryd.prog 24 #[.int .i64 t, .int .i64 n, .slice A b.length c] w (PutsV (takeL t n b) w) := by
  have HC := Lib.hid (show Calls Tryd.prog 41 #[.int .i64 t, .int .i64 n, .slice A b.length c] w (WritesV (takeL t n b) w) from by
    unfold takeL
    by_cases h : (1 ≤ t ∧ t ≤ 4) ∧ 0 ≤ n ∧ n ≤ 1000
    · rw [if_pos h]
      obtain ⟨m, rfl⟩ : ∃ m : Nat, n = (m : Int) := ⟨n.toNat, by omega⟩
      exact rleRead_yes t m A c b w hs h.1 (by omega) hr h256 hb hbc hc
    · rw [if_neg h]; exact rleRead_no t n A _ c w hs h)
  clear hs hr h256 hb hbc hc
  go_enter Tryd.func24, Tryd.ntmps24
  go_wp2_with fail
  refine HC.out.mono ?_
  rintro e w1 ⟨⟨ho, p, rfl⟩ | ⟨l, B, cb, ho, rfl, h1⟩, l1⟩
  · go_wp2_with (go_at_call 36; refine (listV_no _ _ _ p _).mono ?_; rintro e w' ⟨rfl, rfl⟩)
    go_ret2
    exact ⟨.inl ⟨ho, rfl⟩, l1⟩
  · have H := Lib.hid (show PutsV (takeL t n b) w (.returned (.tuple #[.slice B l.length cb, .bool true])) w1 from ⟨.inr ⟨l, B, cb, ho, rfl, h1⟩, l1⟩)
    clear ho h1 l1
    go_wp2_with (go_at_call 36; refine (listV_yes _ _ _ _).mono ?_; rintro e w' ⟨rfl, rfl⟩)
    go_ret2
    exact H.out
end Go.Proofs.YtifejanbgobngaaDoor
