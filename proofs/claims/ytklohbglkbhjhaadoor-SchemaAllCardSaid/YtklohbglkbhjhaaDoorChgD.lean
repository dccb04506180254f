/- slices.Insert (of one) at rows of values. -/
import Derived.Test.YtklohbglkbhjhaaDoorChgC
namespace Go.Proofs.YtklohbglkbhjhaaDoor
open Go.RowKit
set_option linter.unusedVariables false

theorem run_append_tx {P : Program} (w : World) (t tx ty e e' : TypeId) (ht : P.underlying t = some (.slice e)) (htx : P.underlying tx = some (.slice e')) (A B : Option Addr) (n c m d : Nat) :
    (Builtin.append_ #[t, tx] ty #[.slice A n c, .slice B m d]).run P w = (Builtin.append_ #[t, t] ty #[.slice A n c, .slice B m d]).run P w := by
  simp [Builtin.append_, run_underlying ht, run_underlying htx]
theorem wpList_append_tx {P : Program} (w : World) {ops : Array Oper} {rest : List Oper} {o : Oper} {a : Act} {Q : Exit → Act → World → Prop} (hgd : o.guard = none) (s x : Operand) (t tx : TypeId)
    (ho : o.op = .call { callee := .builtin .append, args := #[s, x], argTypes := #[t, tx] })
    (base : Nat) (e e' : TypeId) (z : Value) (size bytes : Nat) (ht : P.underlying t = some (.slice e)) (htx : P.underlying tx = some (.slice e')) (hinfo : (P.info? e).map (fun i => (i.zero, i.size, i.bytes)) = some (some z, size, bytes)) (hzs : z.cells.size = size) (hsz0 : 0 < size)
    (A : Option Addr) (n c0 : Nat) (xs : List Value) (hs : a.eval s = .slice A n c0) (hown : w.ownsRow base e size (.slice A n c0) n xs)
    (b off m c : Nat) (news : List Value) (hx : a.eval x = .slice (some ⟨b, off, none⟩) m c) (hr : Has w (some ⟨b, off, none⟩) news) (hm : news.length = m * size) (h1 : ∀ u ∈ news, u.oneCell' = true)
    (h63 : n + m ≤ maxLen) (hbytes : (n + m) * bytes ≤ 140737488355328) (hbase : base ≤ w.heap.size)
    (h : ∀ A' c' w', w'.ownsRow base e size (.slice A' (n + m) c') (n + m) (xs ++ news) → w.grownBy w' (Value.slice A n c0).ownBlock → (A' = none → c' = 0) → wpList P ops Q rest (a.put o.dst (.slice A' (n + m) c')) w') : wpList P ops Q (o :: rest) a w := by
  obtain ⟨i, hi, hz, hsz, hby⟩ := info_parts hinfo
  have hcells : ∀ j u, news[j]? = some u → w.cell? ((⟨b, off, none⟩ : Addr).add j) = some u := by
    intro j u hu
    rcases hr with h | ⟨b', off', h, _, hc⟩
    · subst h; simp at hu
    · injection h with h
      injection h with h1 h2
      subst h1 h2
      rw [add_plain]
      exact hc j u hu
  obtain ⟨v', w', hrun, h2, h3, _, _⟩ := run_append_own_at (P := P) w base t o.type e i z size bytes ht hi hz hsz hby hzs hsz0 _ n xs hown ⟨b, off, none⟩ m c news hm hcells h1 h63 hbytes hbase
  obtain ⟨A', c', hv, hc'⟩ := ownG_shape h2
  subst hv
  rw [← run_append_tx w t tx o.type e e' ht htx] at hrun
  refine wpList_plain hgd fun _ hK => ?_
  unfold Oper.wp execOp
  simp only [ho, resolve, invoke, builtin, Sem.run_bind, Sem.run_pure, Result.andThen_ok, List.map_toArray, List.map_cons, List.map_nil, hs, hx, hrun]
  exact hK _ _ (h A' c' w' h2 h3 hc')
theorem fl_snoc (l : List Val3) (x : Val3) : fl l ++ encV x = fl (l ++ [x]) := by rw [fl_append]; rfl
theorem fl_set (l : List Val3) (k : Nat) (hk : k < l.length) (x : Val3) : setL (fl l) (k * 3) (encV x) = fl (l.set k x) := by
  rw [setL_eq _ _ _ (by rw [fl_length, encV_len]; omega), encV_len, ← fl_take, show k * 3 + 3 = (k + 1) * 3 by omega, ← fl_drop, fl_snoc, ← fl_append]
  congr 1
  rw [List.set_eq_take_append_cons_drop, if_pos hk]
  simp
/-- What Insert gives. -/
def InsP (l : List Val3) (base g0 : Nat) (w : World) (e : Ending) (w' : World) : Prop :=
  ∃ g c, e = .returned (.slice (some ⟨g, 0, none⟩) l.length c) ∧ w'.ownsRow base 29 3 (.slice (some ⟨g, 0, none⟩) l.length c) l.length (fl l) ∧ w.grownBy w' (some g0)

set_option maxRecDepth 100000 in
set_option maxHeartbeats 2000000 in
theorem insert_end (base g n c b off vc : Nat) (z : Int) (xs : List Val3) (x : Val3) (w : World) (ho : w.ownsRow base 29 3 (.slice (some ⟨g, 0, none⟩) n c) n (fl xs)) (hn : n = xs.length) (hz : z = (n : Int)) (hl : n ≤ 1000) (hv : Has w (some ⟨b, off, none⟩) (encV x)) (hb : base ≤ w.heap.size) :
    Calls Tryd.prog 72 #[.slice (some ⟨g, 0, none⟩) n c, .int .i64 z, .slice (some ⟨b, off, none⟩) 1 vc] w (InsP (xs ++ [x]) base g w) := by
  subst hz
  obtain ⟨hnc, hcm, hbg, hgl, hcell⟩ := own_capG ho
  have hm : c ≤ 9223372036854775807 := by unfold maxLen at hcm; omega
  have HN := Lib.hid hn
  have HO := Lib.hid ho
  have HV := Lib.hid hv
  clear hcell hn ho hv
  go_enter Tryd.func72, Tryd.ntmps72
  go_wp2_with (at_builtin; go_loud (refine wpList_append_tx _ rfl (.tmp 23) (.tmp 24) 33 32 rfl base 29 29 _ 3 32 Tryd.underlying33 Tryd.underlying32 info_v rfl (by decide) _ n c (fl xs) rfl HO.out b off 1 vc (encV x) rfl HV.out rfl (by simp [encV, Value.oneCell']) (by unfold maxLen; omega) (by omega) hb ?_; intro A2 c2 w6 o2 b2 n2; rw [fl_snoc] at o2; obtain ⟨g2, rfl⟩ := own_some o2 (by omega); have HO2 := Lib.hid o2; have HB6 := Lib.hid b2; clear o2 b2 n2))
  all_goals go_ret
  all_goals have hl2 : (xs ++ [x]).length = n + 1 := by rw [List.length_append, HN.out]; rfl
  all_goals exact ⟨g2, c2, by rw [hl2]; rfl, by rw [hl2]; exact HO2.out, HB6.out⟩
end Go.Proofs.YtklohbglkbhjhaaDoor
