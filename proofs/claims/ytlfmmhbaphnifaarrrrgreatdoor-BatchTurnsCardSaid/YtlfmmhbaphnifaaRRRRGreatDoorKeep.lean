/- An append leaves what the old slice reads as it was, whether it grows in place or moves. -/
import Derived.Test.YtlfmmhbaphnifaaRRRRGreatDoorRowsM
import Derived.Test.YtlfmmhbaphnifaaRRRRGreatDoorHeldZ
namespace Go.Proofs.YtlfmmhbaphnifaaRRRRGreatDoor
open Go.RowKit
set_option linter.unusedVariables false

theorem append_keep {P : Program} (w : World) (base : Nat) (t ty e : TypeId) (i : TypeInfo) (z : Value) (size bytes : Nat) (ht : P.underlying t = some (.slice e)) (hi : P.info? e = some i) (hz : i.zero = some z)
    (hsize : i.size = size) (hby : i.bytes = bytes)
    (A : Option Addr) (n c0 : Nat) (xs : List Value) (hown : w.ownsRow base e size (.slice A n c0) n xs)
    (ad : Addr) (m c : Nat) (news : List Value) (hl : news.length = m * size) (hnews : ∀ j u, news[j]? = some u → w.cell? (ad.add j) = some u)
    (h1' : ∀ u ∈ news, u.oneCell' = true) (h63 : n + m ≤ maxLen) (hbytes : (n + m) * bytes ≤ 140737488355328)
    (v' : Value) (w' : World) (hrun : (Builtin.append_ #[t, t] ty #[.slice A n c0, .slice (some ad) m c]).run P w = .ok v' w') (ho : w'.ownsRow base e size v' (n + m) (xs ++ news)) : Has w' A xs := by
  subst hsize
  subst hby
  rcases hown.2 with ⟨h0, h1⟩ | ⟨g, cap, cur, hv, hbg, hg, hnc, hcm, hcs, htake⟩
  · have hx := hown.1
    subst h1
    exact .inl (List.eq_nil_of_length_eq_zero (by simpa using hx))
  · injection hv with e1 e2 e3
    subst e1 e3
    have holds : ∀ j u, xs[j]? = some u → w.cell? ((⟨g, 0, none⟩ : Addr).add j) = some u := hown.cells (g := g) rfl
    have hlt := (hown.lt g rfl).2
    by_cases hroom : n + m ≤ c0
    · have hfit : n * i.size + news.length ≤ cur.size := by rw [hl, hcs, ← Nat.add_mul]; exact Nat.mul_le_mul_right _ hroom
      have hr := run_append_room (P := P) w t ty e i ht hi g n c0 cur hg ad m c news hl hnews h1' hroom hfit
      rw [hrun] at hr
      injection hr with hv hw
      subst hv
      have h2 := ho.cells (g := g) rfl
      refine .inr ⟨g, 0, rfl, (ho.lt g rfl).2, fun k v hv => ?_⟩
      have := h2 k v (by rw [List.getElem?_append_left (by exact (List.getElem?_eq_some_iff.1 hv).1)]; exact hv)
      rw [add_plain] at this
      exact this
    · have hr := run_append_grow (P := P) w t ty e i z ht hi hz ⟨g, 0, none⟩ n c0 xs hown.1 holds ad m c news hl hnews (by omega) (by simp only [maxLen] at h63; omega) (growslice_fits (by omega) hbytes)
      rw [hrun] at hr
      injection hr with hv hw
      subst hw
      refine .inr ⟨g, 0, rfl, by simp; omega, fun k v hv => ?_⟩
      have := holds k v hv
      rw [add_plain] at this
      rw [cell_block (heap_alloc_old w.drew _ hlt)]
      exact this

/-- step_append_x, and the slice that was appended to reads as before. -/
theorem step_append_k {P : Program} {w : World} {ops : Array Oper} {o : Oper} {a : Act} {K : Act → World → Prop} {Q : Exit → Act → World → Prop} {E : Prop} (hgd : o.guard = none) (s x : Operand) (t : TypeId)
    (ho : o.op = .call { callee := .builtin .append, args := #[s, x], argTypes := #[t, t] })
    (base : Nat) (e : TypeId) (z : Value) (size bytes : Nat) (ht : P.underlying t = some (.slice e)) (hinfo : (P.info? e).map (fun i => (i.zero, i.size, i.bytes)) = some (some z, size, bytes)) (hzs : z.cells.size = size) (hsz0 : 0 < size)
    (A : Option Addr) (n c0 : Nat) (xs : List Value) (hs : a.eval s = .slice A n c0) (hown : w.ownsRow base e size (.slice A n c0) n xs)
    (b off m c : Nat) (news : List Value) (hx : a.eval x = .slice (some ⟨b, off, none⟩) m c) (hr : Has w (some ⟨b, off, none⟩) news) (hm : news.length = m * size) (h1 : ∀ u ∈ news, u.oneCell' = true)
    (h63 : n + m ≤ maxLen) (hbytes : (n + m) * bytes ≤ 140737488355328) (hbase : base ≤ w.heap.size)
    (h : ∀ A' c' w', w'.ownsRow base e size (.slice A' (n + m) c') (n + m) (xs ++ news) → w.grownBy w' (Value.slice A n c0).ownBlock → Below base w w' → ((Value.slice A' (n + m) c').ownBlock = (Value.slice A n c0).ownBlock ∨ (Value.slice A' (n + m) c').ownBlock = some w.heap.size) → (A' = none → c' = 0) → Has w' A xs → K (a.put o.dst (.slice A' (n + m) c')) w') :
    if Region.wanted o (yielded ops a.tmps) = true then Oper.wp P o a w K Q else E := by
  have hw : Region.wanted o (yielded ops a.tmps) = true := by simp [Region.wanted, hgd]
  rw [if_pos hw]
  obtain ⟨i, hi, hz, hsz, hby⟩ := info_parts hinfo
  have hcells : ∀ j u, news[j]? = some u → w.cell? ((⟨b, off, none⟩ : Addr).add j) = some u := by
    intro j u hu
    rcases hr with h | ⟨b', off', h, _, hc⟩
    · subst h; simp at hu
    · injection h with h
      injection h with h1 h2
      subst h1 h2
      rw [add_plain]
      exact hc j u hu
  obtain ⟨v', w', hrun, h2, h3, _, hat⟩ := run_append_own_at (P := P) w base t o.type e i z size bytes ht hi hz hsz hby hzs hsz0 _ n xs hown ⟨b, off, none⟩ m c news hm hcells h1 h63 hbytes hbase
  have hkeep := append_keep (P := P) w base t o.type e i z size bytes ht hi hz hsz hby A n c0 xs hown ⟨b, off, none⟩ m c news hm hcells h1 h63 hbytes v' w' hrun h2
  obtain ⟨A', c', hv, hc'⟩ := ownG_shape h2
  subst hv
  unfold Oper.wp execOp
  simp only [ho, resolve, invoke, builtin, Sem.run_bind, Sem.run_pure, Result.andThen_ok, List.map_toArray, List.map_cons, List.map_nil, hs, hx, hrun]
  exact h A' c' w' h2 h3 ((Below.refl _ _).grown h3 hbase fun k hk => (hown.lt k hk).1) hat hc' hkeep
end Go.Proofs.YtlfmmhbaphnifaaRRRRGreatDoor
