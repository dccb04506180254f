/- append at a step of a region, of a slice that may be nothing. -/
import Derived.Test.YtiacemlloaenoaaDoorC3
namespace Go.Proofs.YtiacemlloaenoaaDoor
open Go.RowKit
set_option linter.unusedVariables false

theorem step_append_n {P : Program} {w : World} {ops : Array Oper} {o : Oper} {a : Act} {K : Act → World → Prop} {Q : Exit → Act → World → Prop} {E : Prop} (hgd : o.guard = none) (s x : Operand) (t : TypeId)
    (ho : o.op = .call { callee := .builtin .append, args := #[s, x], argTypes := #[t, t] })
    (base : Nat) (e : TypeId) (z : Value) (size bytes : Nat) (ht : P.underlying t = some (.slice e)) (hinfo : (P.info? e).map (fun i => (i.zero, i.size, i.bytes)) = some (some z, size, bytes)) (hzs : z.cells.size = size) (hsz0 : 0 < size)
    (v : Value) (n : Nat) (xs : List Value) (hs : a.eval s = v) (hown : w.ownsRow base e size v n xs)
    (A : Option Addr) (m c : Nat) (news : List Value) (hx : a.eval x = .slice A m c) (hr : Has w A news) (hm : news.length = m * size) (hnil : A = none → c = 0) (h1 : ∀ u ∈ news, u.oneCell' = true)
    (h63 : n + m ≤ maxLen) (hbytes : (n + m) * bytes ≤ 140737488355328) (hbase : base ≤ w.heap.size)
    (h : ∀ A' c' w', w'.ownsRow base e size (.slice A' (n + m) c') (n + m) (xs ++ news) → w.grownBy w' v.ownBlock → Below base w w' → (A' = none → c' = 0) → K (a.put o.dst (.slice A' (n + m) c')) w') :
    if Region.wanted o (yielded ops a.tmps) = true then Oper.wp P o a w K Q else E := by
  have hw : Region.wanted o (yielded ops a.tmps) = true := by simp [Region.wanted, hgd]
  rcases A with _ | ad
  · have hn : news = [] := by
      rcases hr with h | ⟨b, off, h, _⟩
      · exact h
      · cases h
    subst hn
    have hm0 : m = 0 := by
      rcases Nat.eq_zero_or_pos m with h | h
      · exact h
      · have := Nat.mul_pos h hsz0
        rw [← hm] at this
        simp at this
    subst hm0
    have hc0 := hnil rfl
    subst hc0
    obtain ⟨A', c', hv, hc'⟩ := ownG_shape hown
    subst hv
    rw [if_pos hw]
    obtain ⟨i, hi, hz, hsz, hby⟩ := info_parts hinfo
    have hrun := run_append_owned_none (P := P) (w := w) base t o.type e i size ht hi _ n xs hown
    unfold Oper.wp execOp
    simp only [ho, resolve, invoke, builtin, Sem.run_bind, Sem.run_pure, Result.andThen_ok, List.map_toArray, List.map_cons, List.map_nil, hs, hx, hrun]
    exact h A' c' w (by simpa using hown) (World.grownBy.refl _ _) (Below.refl _ _) hc'
  · rcases hr with h0 | ⟨b, off, e1, hb, hc⟩
    · subst h0
      rw [if_pos hw]
      obtain ⟨i, hi, hz, hsz, hby⟩ := info_parts hinfo
      obtain ⟨v', w', hrun, h2, h3, _, hat⟩ := run_append_own_at (P := P) w base t o.type e i z size bytes ht hi hz hsz hby hzs hsz0 v n xs hown ad m c [] hm (fun j u hu => by simp at hu) h1 h63 hbytes hbase
      obtain ⟨A', c', hv, hc'⟩ := ownG_shape h2
      subst hv
      unfold Oper.wp execOp
      simp only [ho, resolve, invoke, builtin, Sem.run_bind, Sem.run_pure, Result.andThen_ok, List.map_toArray, List.map_cons, List.map_nil, hs, hx, hrun]
      exact h A' c' w' h2 h3 ((Below.refl _ _).grown h3 hbase fun k hk => (hown.lt k hk).1) hc'
    · injection e1 with e1
      subst e1
      exact step_append_x hgd s x t ho base e z size bytes ht hinfo hzs hsz0 v n xs hs hown b off m c news hx (.inr ⟨b, off, rfl, hb, hc⟩) hm h1 h63 hbytes hbase fun A' c' w' h2 h3 h4 _ h6 => h A' c' w' h2 h3 h4 h6
theorem has_below {w w' : World} {base : Nat} {A : Option Addr} {xs : List Value} (h : Has w A xs) (hA : ∀ b off, A = some ⟨b, off, none⟩ → b < base) (l : Below base w w') : Has w' A xs := by
  rcases h with h | ⟨b, off, e, hb, hc⟩
  · exact .inl h
  · exact .inr ⟨b, off, e, Nat.lt_of_lt_of_le hb l.size, fun k v hv => (l.cell (p := ⟨b, off + k, none⟩) (hA b off e)).trans (hc k v hv)⟩
theorem has_grown {w w' : World} {g q : Nat} {xs : List Value} {o : Option Nat} (h : Has w (some ⟨g, 0, none⟩) xs) (l : w.grownBy w' o) (ho : o = some q) (hne : g ≠ q) : Has w' (some ⟨g, 0, none⟩) xs := by
  rcases h with h | ⟨b, off, e, hb, hc⟩
  · exact .inl h
  · injection e with e
    injection e with e1 e2
    subst e1 e2
    refine .inr ⟨g, 0, rfl, Nat.lt_of_lt_of_le hb l.size, fun k v hv => ?_⟩
    rw [cell_block (l.block g hb (by rw [ho]; intro e; injection e with e; exact hne e))]
    exact hc k v hv
theorem tw_all {l : List Int} {p : Int → Bool} (h : ∀ x ∈ l, p x = true) : l.takeWhile p = l := by
  induction l with
  | nil => rfl
  | cons a r ih => rw [List.takeWhile_cons_of_pos (h a (by simp)), ih fun x hx => h x (by simp [hx])]
end Go.Proofs.YtiacemlloaenoaaDoor
