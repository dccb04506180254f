
import Derived.Test.YtkdpjocglfephaaDoorRefGrp
import Derived.Test.YtkdpjocglfephaaDoorAggX
import Derived.Test.YtkdpjocglfephaaDoorBagM
import Derived.Test.YtkdpjocglfephaaDoorRefSum
import Derived.Test.YtkdpjocglfephaaDoorGrpT
import Derived.Test.YtkdpjocglfephaaDoorOpenPr
import Derived.Test.YtkdpjocglfephaaDoorBase
import Derived.Test.YtkdpjocglfephaaDoorCell
import Derived.Test.YtkdpjocglfephaaDoorAggB
import Derived.Test.YtkdpjocglfephaaDoorTab
import Derived.Test.YtkdpjocglfephaaDoorAggS
import Derived.Test.YtkdpjocglfephaaDoorRefBef
import Derived.Test.YtkdpjocglfephaaDoorRefOne
import Derived.Test.YtkdpjocglfephaaDoorPlayN
import Derived.Test.YtkdpjocglfephaaDoorPlayS
import Derived.Test.YtkdpjocglfephaaDoorPlayV
import Derived.Test.YtkdpjocglfephaaDoorGrpN
import Derived.Test.YtkdpjocglfephaaDoorRefOrder
import Derived.Test.YtkdpjocglfephaaDoorRefOf
import Derived.Deep.CutBlock
import Derived.Deep.CutRange
import Derived.Laws.Externs
import Derived.Shelf.SlSortCmp.QuietGrown
import Derived.BigQuiet
import Derived.Test.YtkdpjocglfephaaDoorInsl
import Derived.WalkKit
import Derived.LaidEql
import Derived.Stop.Asserts
import Derived.Stop.IfaceNil
import Derived.RowKitTokens
import Derived.Laws.OwnMore
import Derived.Laws.BytesArg
import Derived.Laws.Rows
import Derived.Deep.AppendLies
import Derived.Deep.Draws
import Derived.Test.YtkdpjocglfephaaDoorChecked
import Derived.Deep.OwnRows
import Derived.Lib.Hide
import Derived.Deep.Quiet
import Derived.Laws.AppendOwnNone
import Derived.Lib.Strings
import Derived.Outline
import Derived.WalkLawsBesides
import Derived.WalkSpells
import Derived.PlainAid
import Derived.Deep.QuietTactic
import Derived.RegionTactic
import Derived.BigRegion
import Derived.Handy
import Derived.Laws.BitsAllLaws
import Derived.Deep.RegionWith
import Derived.Lib.AppendStr
import Derived.Deep.RegionLaw
import Derived.Maps.AppendAt
import Derived.OpenShut
import Derived.WideShapes
import Derived.ChangeArms
import Derived.Deep.Slices
import Derived.Sort.Grow
import Derived.OrdersHeld
import Derived.Laws.BitsLemmas
import Derived.Laws.Bits64
import Derived.WalkSmall
import Derived.ChangeOld
import Derived.Lib.Bytealg
import Derived.Deep.SlicePairs
import Derived.Test.YtkdpjocglfephaaDoorShelf
import Derived.Deep.RegionHeld3
import Derived.Shelf.Abstract
import Derived.Sort.LotA
/- The walk of AggAll. (tools/gen_aggall.py) -/









namespace Go.Proofs.YtkdpjocglfephaaDoor
open Go.RowKit
set_option linter.unusedVariables false

/-- The groups are told by the columns alone. -/
theorem GroupsOf.one {cols : List (List Val3)} {bys : List Int} {N : Nat} {R T : List (List Nat)} (h : GroupsOf cols bys N R) (k : GroupsOf cols bys N T) : R = T := by
  rcases h with ⟨h1, h2⟩ | ⟨h1, S, hS, h2⟩ <;> rcases k with ⟨k1, k2⟩ | ⟨k1, S', hT, k2⟩
  · rw [h2, k2]
  · exact absurd h1 k1
  · exact absurd k1 h1
  · rw [h2, k2, IsS.one (cmpBy_turn cols bys) hS hT]
theorem mapE_upto {α β : Type} (f : α → Except Int β) (l : List α) : ∀ (k : Nat), k ≤ l.length → ∀ vs, mapE f (l.take k) = .ok vs → vs.length = k ∧ ∀ y ∈ vs, ∃ x ∈ l, f x = .ok y
  | 0, _, vs, h => by
    have e : vs = [] := by
      rw [List.take_zero] at h
      injection h with h
      exact h.symm
    subst e
    exact ⟨rfl, fun y hy => by cases hy⟩
  | k + 1, hk, vs, h => by
    rw [mapE_take f l k (by omega)] at h
    rcases hm : mapE f (l.take k) with n | us
    · rw [hm] at h; cases h
    · rw [hm] at h
      obtain ⟨h1, h2⟩ := mapE_upto f l k (by omega) us hm
      rcases hf : f l[k] with n | v
      · simp only [stepE, hf] at h; cases h
      · simp only [stepE, hf] at h
        injection h with h
        subst h
        refine ⟨by rw [List.length_append, h1]; rfl, fun y hy => ?_⟩
        rcases List.mem_append.1 hy with hy | hy
        · exact h2 y hy
        · rw [List.mem_singleton] at hy
          subst hy
          exact ⟨l[k], List.getElem_mem _, hf⟩
theorem mapE_all {α β : Type} {f : α → Except Int β} {l : List α} {vs : List β} (h : mapE f l = .ok vs) : vs.length = l.length ∧ ∀ y ∈ vs, ∃ x ∈ l, f x = .ok y :=
  mapE_upto f l l.length (Nat.le_refl _) vs (by rw [List.take_length]; exact h)
theorem runE_len {cols : List (List Val3)} {bys : List Int} {aggs : List (Int × Int)} {R : List (List Nat)} {L : List (List Val3)} (h : runE cols bys aggs R = .ok L) : L.length = R.length ∧ ∀ y ∈ L, y.length = bys.length + aggs.length := by
  obtain ⟨h1, h2⟩ := mapE_all h
  refine ⟨h1, fun y hy => ?_⟩
  obtain ⟨ps, _, hp⟩ := h2 y hy
  unfold rowE at hp
  rcases hm : mapE (fun a : Int × Int => ofA cols ps a.1 a.2) aggs with n | vs
  · rw [hm] at hp; cases hp
  · rw [hm] at hp
    injection hp with hp
    subst hp
    rw [List.length_append, List.length_map, (mapE_all hm).1]
/-- What the law makes of its numbers. -/
def aggOf (x : Nat × Nat) : Int × Int := ((x.1 % 6 : Nat), ((x.2 % 6 : Nat) : Int) - 1)
def byOf (x : Nat) : Int := ((x % 7 : Nat) : Int) - 1
theorem aggfa_append (l : List (Int × Int)) (x : Int × Int) : fa (l ++ [x]) = fa l ++ [.int .i64 x.1, .int .i64 x.2] := by
  unfold fa; rw [List.flatMap_append]; rfl
theorem aggiin_append (l : List Int) (x : Int) : iin (l ++ [x]) = iin l ++ [.int .i64 x] := by
  unfold iin; rw [List.map_append]; rfl
/-- What both give together. -/
def OutE (cols : List (List Val3)) (bys : List Int) (aggs : List (Int × Int)) (W : Int) (rs : List SlV) (n : Int) : Prop :=
  (¬ RunOk W bys aggs ∧ n = 1 ∧ rs = []) ∨ (RunOk W bys aggs ∧ ∃ R, GroupsOf cols bys (heightC cols) R ∧ ((n = 0 ∧ runE cols bys aggs R = .ok (rs.map (·.l))) ∨ (rs = [] ∧ runE cols bys aggs R = .error n)))
theorem OutE.same {cols : List (List Val3)} {bys : List Int} {aggs : List (Int × Int)} {W : Int} {rs ts : List SlV} {n m : Int} (h : OutE cols bys aggs W rs n) (k : OutE cols bys aggs W ts m) : n = m ∧ rs.map (·.l) = ts.map (·.l) := by
  rcases h with ⟨h0, rfl, rfl⟩ | ⟨h0, R, hR, h⟩ <;> rcases k with ⟨k0, rfl, rfl⟩ | ⟨k0, T, hT, k⟩
  · exact ⟨rfl, rfl⟩
  · exact absurd k0 h0
  · exact absurd h0 k0
  · have e := hR.one hT
    subst e
    rcases h with ⟨rfl, h⟩ | ⟨rfl, h⟩ <;> rcases k with ⟨rfl, k⟩ | ⟨rfl, k⟩
    · rw [h] at k
      injection k with k
      exact ⟨rfl, k⟩
    · rw [h] at k; cases k
    · rw [h] at k; cases k
    · rw [h] at k
      injection k with k
      exact ⟨k, rfl⟩
/-- What Run and Group give, in one form. -/
def BothP (cols : List (List Val3)) (bys : List Int) (aggs : List (Int × Int)) (W : Int) (w : World) (e : Ending) (w' : World) : Prop :=
  ∃ (A : Option Addr) (c m : Nat) (rs : List SlV) (n : Int), e = .returned (.tuple #[.slice A m c, .int .i64 n]) ∧ m = rs.length ∧ OutE cols bys aggs W rs n ∧ RowsAt w' A rs ∧ m ≤ 1000 ∧ (∀ s ∈ rs, s.l.length ≤ 1000) ∧ Later w w'
theorem rowsAt_nil (w : World) (A : Option Addr) : RowsAt w A [] := ⟨.inl rfl, fun s hs => by cases hs⟩
theorem both_of {cols : List (List Val3)} {bys : List Int} {aggs : List (Int × Int)} {W : Int} {w w' : World} {e : Ending} (hN : heightC cols ≤ 100) (hb : bys.length ≤ 100) (ha : aggs.length ≤ 100) (h : RunP cols bys aggs W w e w') : BothP cols bys aggs W w e w' := by
  rcases h with ⟨h0, rfl, l⟩ | ⟨h0, R, hR, ⟨A, c, rs, rfl, hr, hat, _, _, l⟩ | ⟨n, hr, hn, rfl, l⟩⟩
  · exact ⟨none, 0, 0, [], 1, rfl, rfl, .inl ⟨h0, rfl, rfl⟩, rowsAt_nil _ _, by omega, (fun s hs => by cases hs), l⟩
  · obtain ⟨e1, e2⟩ := runE_len hr
    have e3 := hR.mem.2
    rw [List.length_map] at e1
    refine ⟨A, c, rs.length, rs, 0, rfl, rfl, .inr ⟨h0, R, hR, .inl ⟨rfl, hr⟩⟩, hat, by omega, fun s hs => ?_, l⟩
    have := e2 s.l (List.mem_map_of_mem hs)
    omega
  · exact ⟨none, 0, 0, [], n, rfl, rfl, .inr ⟨h0, R, hR, .inr ⟨rfl, hr⟩⟩, rowsAt_nil _ _, by omega, (fun s hs => by cases hs), l⟩

theorem aggheight_same (l : List (List Val3)) (N : Nat) (h0 : l ≠ []) (h : ∀ x ∈ l, x.length = N) : heightC l = N := by
  have key : ∀ (r : List (List Val3)) (n : Nat), n = N → (∀ x ∈ r, x.length = N) → r.foldl (fun n x => min n x.length) n = N := by
    intro r
    induction r with
    | nil => intro n hn _; exact hn
    | cons c r ih => intro n hn hr; exact ih _ (by show min n c.length = N; rw [hr c (by simp), hn, Nat.min_self]) fun x hx => hr x (by simp [hx])
  cases l with
  | nil => exact absurd rfl h0
  | cons c r => exact key r _ (h c (by simp)) fun x hx => h x (by simp [hx])
/-- A row of the call's own stays while another, of another type, grows. -/
theorem own_other {w w' : World} {base : Nat} {e f : TypeId} {k m : Nat} {v u : Value} {n p : Nat} {xs ys : List Value} (h : w.ownsRow base e k v n xs) (ha : w.ownsRow base f m u p ys) (hef : f ≠ e) (hg : w.grownBy w' u.ownBlock) : w'.ownsRow base e k v n xs := by
  obtain ⟨h1, h2⟩ := h
  refine ⟨h1, ?_⟩
  rcases h2 with h2 | ⟨g', cap, cur, hv, hb', hg', hrest⟩
  · exact .inl h2
  · refine .inr ⟨g', cap, cur, hv, hb', (hg.block g' (Array.getElem?_eq_some_iff.1 hg').1 ?_).trans hg', hrest⟩
    intro he
    obtain ⟨_, ha2⟩ := ha
    rcases ha2 with ⟨rfl, _⟩ | ⟨g2, _, _, rfl, _, hg2, _⟩
    · cases he
    · injection he with he
      subst he
      rw [hg'] at hg2
      injection hg2 with hg2
      injection hg2 with _ hg2 _
      exact hef hg2.symm
theorem Has.u8at {w : World} {A : Option Addr} {l : List Nat} (h : Has w A (ints .u8 l)) (k : Nat) (hk : k < l.length) : ∃ b off, A = some ⟨b, off, none⟩ ∧ w.cell? ⟨b, off + k, none⟩ = some (.int .u8 l[k]) := by
  obtain ⟨b, off, hA, _, hc⟩ := h.at_ (k := k) (by unfold ints; rw [List.length_map]; exact hk)
  refine ⟨b, off, hA, ?_⟩
  rw [hc]; simp [ints]
theorem rem_21 (x : Nat) (hx : x < 256) : IntKind.u8.wrap ((x : Int).tmod 21) = ((x % 21 : Nat) : Int) ∧ (x : Int).tmod 21 = ((x % 21 : Nat) : Int) := by
  have h : (x : Int).tmod 21 = ((x % 21 : Nat) : Int) := by
    rw [Int.tmod_eq_emod_of_nonneg (by omega)]; omega
  refine ⟨?_, h⟩
  rw [h, IntKind.wrap_u8]; omega
theorem rem_7 (x : Nat) (hx : x < 256) : IntKind.u8.wrap ((x : Int).tmod 7) = ((x % 7 : Nat) : Int) ∧ (x : Int).tmod 7 = ((x % 7 : Nat) : Int) := by
  have h : (x : Int).tmod 7 = ((x % 7 : Nat) : Int) := by
    rw [Int.tmod_eq_emod_of_nonneg (by omega)]; omega
  refine ⟨?_, h⟩
  rw [h, IntKind.wrap_u8]; omega
theorem rem_6 (x : Nat) (hx : x < 256) : IntKind.u8.wrap ((x : Int).tmod 6) = ((x % 6 : Nat) : Int) ∧ (x : Int).tmod 6 = ((x % 6 : Nat) : Int) := by
  have h : (x : Int).tmod 6 = ((x % 6 : Nat) : Int) := by
    rw [Int.tmod_eq_emod_of_nonneg (by omega)]; omega
  refine ⟨?_, h⟩
  rw [h, IntKind.wrap_u8]; omega
theorem info_aa : (Tryd.prog.info? 65).map (fun i => (i.zero, i.size, i.bytes)) = some (some (.agg #[.int .i64 0, .int .i64 0]), 2, 16) := by kernel_rfl
theorem info_ra : (Tryd.prog.info? 66).map (fun i => (i.zero, i.size, i.bytes)) = some (some (.agg #[.int .i64 0, .int .i64 0]), 2, 16) := by kernel_rfl
theorem info_bi : (Tryd.prog.info? 3).map (fun i => (i.zero, i.size, i.bytes)) = some (some (.int .i64 0), 1, 8) := by kernel_rfl
/-- Where the places' loop stands. -/
def ByI (bl : List Nat) (W : World) (xv iv : Value) (wr : World) : Prop :=
  ∃ (k : Nat) (A : Option Addr) (c : Nat), xv = .slice A k c ∧ iv = .int .i64 k ∧ k ≤ bl.length ∧ wr.ownsRow W.heap.size 3 1 (.slice A k c) k (iin ((bl.map byOf).take k)) ∧ (A = none → c = 0) ∧ Later W wr
theorem ByI.mk {bl : List Nat} {W wr : World} (y : Int) (k n : Nat) (A : Option Addr) (c : Nat) (hy : y = (k : Int)) (hn : n = k) (hk : k ≤ bl.length) (ho : wr.ownsRow W.heap.size 3 1 (.slice A n c) n (iin ((bl.map byOf).take k))) (hnil : A = none → c = 0) (L : Later W wr) : ByI bl W (.slice A n c) (.int .i64 y) wr := by
  subst hy hn; exact ⟨n, A, c, rfl, rfl, hk, ho, hnil, L⟩
/-- Where the pairs' loop stands. -/
def PrI (al : List (Nat × Nat)) (W : World) (av bv iv : Value) (wr : World) : Prop :=
  ∃ (k : Nat) (A : Option Addr) (c : Nat) (B : Option Addr) (d : Nat), av = .slice A k c ∧ bv = .slice B k d ∧ iv = .int .i64 k ∧ k ≤ al.length ∧ wr.ownsRow W.heap.size 65 2 (.slice A k c) k (fa ((al.map aggOf).take k)) ∧ wr.ownsRow W.heap.size 66 2 (.slice B k d) k (fa ((al.map aggOf).take k)) ∧ (A = none → c = 0) ∧ (B = none → d = 0) ∧ Later W wr
theorem PrI.mk {al : List (Nat × Nat)} {W wr : World} (y : Int) (k n m : Nat) (A : Option Addr) (c : Nat) (B : Option Addr) (d : Nat) (hy : y = (k : Int)) (hn : n = k) (hm : m = k) (hk : k ≤ al.length) (ho : wr.ownsRow W.heap.size 65 2 (.slice A n c) n (fa ((al.map aggOf).take k))) (hp : wr.ownsRow W.heap.size 66 2 (.slice B m d) m (fa ((al.map aggOf).take k))) (hnil : A = none → c = 0) (hnil2 : B = none → d = 0) (L : Later W wr) : PrI al W (.slice A n c) (.slice B m d) (.int .i64 y) wr := by
  subst hy hn hm; exact ⟨_, A, c, B, d, rfl, rfl, rfl, hk, ho, hp, hnil, hnil2, L⟩

set_option maxRecDepth 100000 in
theorem aggAll_long (A Bp Gp : Option Addr) (n c bn bc gn gc : Nat) (r : Int) (a0 a1 a2 : Addr) (w : World) (hs : S24 w a0 a1 a2) (h : ¬ (n ≤ 150 ∧ bn ≤ 4 ∧ gn ≤ 4)) :
    Calls Tryd.prog 4 #[.slice A n c, .int .u8 r, .slice Bp bn bc, .slice Gp gn gc] w fun e w' => e = .returned (.bool true) ∧ Later w w' := by
  have HB := Lib.hid (begun24_any a0 a1 a2 w hs)
  clear hs
  go_enter Tryd.func4, Tryd.ntmps4
  go_wp2_with fail
  refine HB.out.mono ?_
  rintro e w1 ⟨rfl, l1⟩
  by_cases h1 : n ≤ 150
  · have d1 : decide ((150 : Int) < (n : Int)) = false := by simp; omega
    by_cases h2 : bn ≤ 4
    · have d2 : decide ((4 : Int) < (bn : Int)) = false := by simp; omega
      have d3 : decide ((4 : Int) < (gn : Int)) = true := by simp; omega
      clear h
      go_wp2_with fail
      go_ret
      exact ⟨rfl, l1⟩
    · have d2 : decide ((4 : Int) < (bn : Int)) = true := by simp; omega
      clear h
      go_wp2_with fail
      go_ret
      exact ⟨rfl, l1⟩
  · have d1 : decide ((150 : Int) < (n : Int)) = true := by simp; omega
    clear h
    go_wp2_with fail
    go_ret
    exact ⟨rfl, l1⟩

set_option maxRecDepth 100000 in
set_option maxHeartbeats 8000000 in
theorem aggAll_walk (A Bp Gp : Option Addr) (n c bn bc gn gc : Nat) (bs : List Nat) (r : Nat) (bl : List Nat) (al : List (Nat × Nat)) (a0 a1 a2 : Addr) (w : World) (hs : S24 w a0 a1 a2) (hb : bs.length = n) (hn : n ≤ 150) (hr : Has w A (ints .u8 bs)) (h256 : ∀ x ∈ bs, x < 256) (hr256 : r < 256) (hbl : bl.length = bn) (hb4 : bn ≤ 4) (hbr : Has w Bp (ints .u8 bl)) (hb256 : ∀ x ∈ bl, x < 256) (hal : al.length = gn) (hg4 : gn ≤ 4) (hgr : Has w Gp (fpr al)) (hg256 : ∀ x ∈ al, x.1 < 256 ∧ x.2 < 256) :
    Calls Tryd.prog 4 #[.slice A n c, .int .u8 r, .slice Bp bn bc, .slice Gp gn gc] w fun e w' => e = .returned (.bool true) ∧ Later w w' := by
  subst hbl hal
  have HB := Lib.hid (begun24_any a0 a1 a2 w hs)
  have HS := Lib.hid hs
  have HR := Lib.hid hr
  have HBR := Lib.hid hbr
  have HGR := Lib.hid hgr
  have HB256 := Lib.hid hb256
  have HG256 := Lib.hid hg256
  have hc : PkC n bs := ⟨by omega, hb, h256⟩
  have HCC := Lib.hid hc
  clear hr h256 hb hc hs hbr hgr hb256 hg256
  go_enter Tryd.func4, Tryd.ntmps4
  go_wp2_with fail
  refine HB.out.mono ?_
  rintro e w1 ⟨rfl, l1⟩
  have HL1 := Lib.hid l1
  have HR1 := Lib.hid (HR.out.later l1)
  obtain ⟨g, hg⟩ : ∃ g, w1.heap.size = g := ⟨_, rfl⟩
  clear l1 HB HR
  have hn60 : decide ((150 : Int) < (n : Int)) = false := by simp; omega
  have hn61 : decide ((4 : Int) < (bl.length : Int)) = false := by simp; omega
  have hn62 : decide ((4 : Int) < (al.length : Int)) = false := by simp; omega
  go_wp2_with (go_at_call 6; refine (made_any A n c _).mono ?_; rintro e w2 ⟨rfl, hw2⟩)
  have l2 : Later w1 w2 := hw2 ▸ Later.new _ _
  have HPK2 := Lib.hid (show Pks w2 g A n c bs from ⟨⟨0, Nat.zero_le _, hw2 ▸ Blk.new _ _ _ g hg.symm⟩, by
    have h := HR1.out
    rcases h with h | ⟨b, off, hA, hb, hcc⟩
    · exact .inl h
    · exact .inr ⟨b, off, hA, by omega, fun k v hv => l2.cell (hcc k v hv)⟩⟩)
  have HL2 := Lib.hid l2
  have HPK2L := Lib.hid HPK2.out.lt
  have HG0 := Lib.hid hg
  clear l2 hw2 HR1 hg hn60 hn61 hn62
  go_wp2_with fail
  refine (schema_any g A n c bs w2 HCC.out HPK2.out).mono ?_
  rintro e w3 ⟨t0, m, ts, V, vc, es, E, ec, d0, d1, d2, rfl, ⟨hm, htl, ht0, hts⟩, ⟨hes, het, hlay⟩, rs⟩
  obtain ⟨cols, hcols⟩ : ∃ x, playCols t0 m ts = x := ⟨_, rfl⟩
  rw [hcols] at rs
  have hcl : cols.length = m + 2 := by rw [← hcols, playCols_len, htl]
  obtain ⟨vn, hvn⟩ : ∃ x, m + 2 = x := ⟨_, rfl⟩
  rw [hvn] at rs hcl
  rw [hvn]
  have hvb : 2 ≤ vn ∧ vn ≤ 4 := by omega
  obtain ⟨hq1, hq2⟩ := rem_21 r hr256
  obtain ⟨q, hq⟩ : ∃ q, r % 21 = q := ⟨_, rfl⟩
  have hq20 : q ≤ 20 := by omega
  rw [hq] at hq1 hq2
  have hwq : IntKind.i64.wrap (q : Int) = (q : Int) := IntWalk.i64_in _ ⟨by omega, by omega⟩
  clear hq
  have HCL := Lib.hid hcl
  have hVX : HasX (some g) w3 V (fc cols) := HasX.own rs.oV fun _ h => by injection h with h; rw [← h]; exact rs.far.1
  obtain ⟨gs, hgs⟩ : ∃ x, w3.heap.size = x := ⟨_, rfl⟩
  obtain ⟨w4, hw4⟩ : ∃ x : World, (w3.alloc (.cells #[.slice V vn vc, .int .i64 vn] 33)).alloc (.cells #[.int .i64 d0, .int .i64 d1, .int .i64 d2, .slice E vn ec] 36) = x := ⟨_, rfl⟩
  have l4 : Later w3 w4 := hw4 ▸ (Later.new _ _).alloc _
  have HS4 := Lib.hid (show Blk w4 gs #[.slice V vn vc, .int .i64 vn] 33 from hw4 ▸ (Blk.new w3 _ _ gs hgs.symm).later (Later.new _ _))
  have HP4 := Lib.hid (rs.pk.later l4)
  have HF4 := Lib.hid (rs.far.later l4)
  have HV4 := Lib.hid (hVX.later l4)
  have HW4 := Lib.hid hw4
  clear hcols hvn hcl l4 rs hts het hlay hes ht0 htl HPK2 hVX hw4
  have s0 := HS4.out.cell 0 _ rfl
  have s1 := HS4.out.cell 1 _ rfl
  have HBT := Lib.hid (batch_any q g A n c bs V vn vc (vn : Int) cols w4 HCC.out HP4.out HCL.out.symm (by omega) (by omega) HV4.out)
  go_wp2_with fail
  rw [HW4.out]
  refine HBT.out.mono ?_
  rintro e w5 ⟨gz, zs, rfl, hzl, hzr, hz20, _, hp5, hf5⟩
  have HL5 := Lib.hid (HL1.out.trans ((HF4.out.trans hf5).out HG0.out.symm HL2.out))
  have HZ := Lib.hid hzr
  have hzne : colsOf zs ≠ [] := by
    intro e
    have h := congrArg List.length e
    unfold colsOf at h
    rw [List.length_map, hzl] at h
    simp at h
    omega
  have HHT := Lib.hid (show heightC (colsOf zs) = q from aggheight_same _ q hzne fun x hx => by
    obtain ⟨s, hs, rfl⟩ := List.mem_map.1 hx
    exact (hz20 s hs).1)
  have HZL := Lib.hid hzl
  have HZ20 := Lib.hid hz20
  have HI0 := Lib.hid (ByI.mk (bl := bl) (W := w5) (wr := w5) 0 0 0 none 0 rfl rfl (Nat.zero_le _) (ownG_nil _ _ _ _) (fun _ => rfl) (Later.refl _))
  clear hzl hzr hz20 hp5 hf5 HBT HP4 HF4 HV4 HS4 s0 s1 hgs HPK2L HCC HL1 HL2 HG0 HCL HW4 hq1 hq2 hwq hzne
  go_wp2_with fail
  go_loopw [13, 14] (fun xv iv wr => ByI bl w5 xv iv wr) (fun _ i _ => bl.length - (intOf i).toNat)
  case atStart => exact HI0.out
  case round =>
    obtain ⟨k, X, xc, rfl, rfl, hk, hown, hnil, lat⟩ := hrel
    have HOWN := Lib.hid hown
    have HNIL := Lib.hid hnil
    have HLAT := Lib.hid lat
    clear HI0 hown hnil
    by_cases hlt : k < bl.length
    · obtain ⟨b, off, hA, c0⟩ := (HBR.out.later (HL5.out.trans lat)).u8at k hlt
      subst hA
      have hx := HB256.out _ (List.getElem_mem hlt)
      have HF := Lib.hid (show iin ((bl.map byOf).take (k + 1)) = iin ((bl.map byOf).take k) ++ [.int .i64 (((bl[k] % 7 : Nat) : Int) - 1)] from by
        rw [List.take_succ_eq_append_getElem (by rw [List.length_map]; exact hlt), aggiin_append, List.getElem_map]; rfl)
      generalize bl[k] = x at c0 HF hx
      obtain ⟨hx1, hx2⟩ := rem_7 x hx
      obtain ⟨q7, hq7⟩ : ∃ q, x % 7 = q := ⟨_, rfl⟩
      rw [hq7] at hx1 hx2 HF
      have hq7b : q7 ≤ 6 := by omega
      have hw1 : IntKind.i64.wrap (q7 : Int) = (q7 : Int) := IntWalk.i64_in _ ⟨by omega, by omega⟩
      have hw2 : IntKind.i64.wrap ((q7 : Int) - 1) = (q7 : Int) - 1 := IntWalk.i64_in _ ⟨by omega, by omega⟩
      have HBK := Lib.hid (fun (wz : World) => Blk.new wz #[.int .i64 ((q7 : Int) - 1)] 3 wz.heap.size rfl)
      have HOB := Lib.hid (fun (o : Obj) => own_later HOWN.out (Later.new wr o))
      have hs1 := lat.size
      clear lat hq7
      go_wp2_with (at_builtin; refine wpList_append_g _ rfl (.tmp 58) (.tmp 66) 34 rfl w5.heap.size 3 _ 1 8 Tryd.underlying34 info_bi rfl (by decide) _ k _ rfl (HOB.out _) _ 1 1 [.int .i64 ((q7 : Int) - 1)] rfl (HBK.out wr).has rfl (by intro h; cases h) (by intro u hu; rw [List.mem_singleton] at hu; subst hu; rfl) (by unfold maxLen; omega) (by omega) (by simp; omega) ?_; rintro A' c' wq hO _ hbel hn2; have HO2 := Lib.hid hO; have HN2 := Lib.hid hn2; have HL3 := Lib.hid (Later.of ((HLAT.out.alloc _).below.trans hbel)); clear hO hn2 hbel)
      go_roundw
      case rel => exact ByI.mk _ (k + 1) _ _ _ (by omega) rfl hlt (by rw [HF.out]; exact HO2.out) HN2.out HL3.out
      case measure => simp [intOf]; omega
    · obtain rfl : k = bl.length := by omega
      have HKH := Lib.hid (show Has wr X (iin (bl.map byOf)) from by
        have h := Has.ownG HOWN.out
        rwa [show (bl.map byOf).take bl.length = bl.map byOf from by rw [List.take_of_length_le (by rw [List.length_map]; exact Nat.le_refl _)]] at h)
      have HL6 := Lib.hid (HL5.out.trans lat)
      have HZ6 := Lib.hid (HZ.out.later lat)
      have HJ0 := Lib.hid (PrI.mk (al := al) (W := wr) (wr := wr) 0 0 0 0 none 0 none 0 rfl rfl rfl (Nat.zero_le _) (ownG_nil _ _ _ _) (ownG_nil _ _ _ _) (fun _ => rfl) (fun _ => rfl) (Later.refl _))
      obtain ⟨w6, hw6⟩ : ∃ x, x = wr := ⟨_, rfl⟩
      subst hw6
      clear HOWN HNIL HLAT lat HZ HL5
      go_wp2_with fail
      go_loopw [15, 16, 17] (fun av bv iv wr => PrI al w6 av bv iv wr) (fun _ _ i _ => al.length - (intOf i).toNat)
      case atStart => exact HJ0.out
      case round =>
        obtain ⟨k, P, pc, Q, qc, rfl, rfl, rfl, hk, hown, hown2, hnil, hnil2, lat⟩ := hrel
        have HOWN := Lib.hid hown
        have HOWM := Lib.hid hown2
        have HNIL := Lib.hid hnil
        have HNIM := Lib.hid hnil2
        have HLAT := Lib.hid lat
        clear HJ0 hown hown2 hnil hnil2
        by_cases hlt : k < al.length
        · obtain ⟨b, off, hA, c0, c1⟩ := (HGR.out.later (HL6.out.trans lat)).fpr k hlt
          subst hA
          have hx := HG256.out _ (List.getElem_mem hlt)
          have HF := Lib.hid (show fa ((al.map aggOf).take (k + 1)) = fa ((al.map aggOf).take k) ++ [.int .i64 ((al[k].1 % 6 : Nat) : Int), .int .i64 (((al[k].2 % 6 : Nat) : Int) - 1)] from by
            rw [List.take_succ_eq_append_getElem (by rw [List.length_map]; exact hlt), aggfa_append, List.getElem_map]; rfl)
          generalize al[k].1 = x at c0 HF hx
          generalize al[k].2 = y at c1 HF hx
          obtain ⟨hx1, hx2⟩ := rem_6 x hx.1
          obtain ⟨hy1, hy2⟩ := rem_6 y hx.2
          obtain ⟨op, hop⟩ : ∃ q, x % 6 = q := ⟨_, rfl⟩
          obtain ⟨aq, haq⟩ : ∃ q, y % 6 = q := ⟨_, rfl⟩
          rw [hop] at hx1 hx2 HF
          rw [haq] at hy1 hy2 HF
          have hop5 : op ≤ 5 := by omega
          have haq5 : aq ≤ 5 := by omega
          have hw1 : IntKind.i64.wrap (op : Int) = (op : Int) := IntWalk.i64_in _ ⟨by omega, by omega⟩
          have hw2 : IntKind.i64.wrap (aq : Int) = (aq : Int) := IntWalk.i64_in _ ⟨by omega, by omega⟩
          have hw3 : IntKind.i64.wrap ((aq : Int) - 1) = (aq : Int) - 1 := IntWalk.i64_in _ ⟨by omega, by omega⟩
          have HF1 := Lib.hid c0
          have HF2 := Lib.hid c1
          have hkz : (k : Int) < (al.length : Int) := by omega
          clear c0 c1 hop haq lat
          go_upto_region 18 with fail
          go_cut [18, 19] from 74 to 88 (fun v1 v2 wx => v1 = .int .i64 op ∧ v2 = .int .i64 ((aq : Int) - 1) ∧ Later wr wx)
          case first => as_aux_lemma =>
            refine wp_region_K (S := fun W : World => Later wr W) (R := fun a b => a = b) (fun _ => rfl) (by kernel_rfl) ?_
            have hS : Later wr wr.drew := (Later.refl wr).drew
            obtain ⟨wd, hwd⟩ : ∃ x, wr.drew = x := ⟨_, rfl⟩
            rw [hwd] at hS ⊢
            clear hwd
            refine wpAnyK_take (fun _ => rfl) (fun _ _ _ h k => h.trans k) (fun _ _ h k => k ▸ h) (i := 0) (oi := { dst := some 74, op := _, type := _, pos := _, after := _, guard := _ }) (v := ?_) rfl (by kernel_rfl) (by kernel_rfl) (by kernel_rfl) (fun _ _ _ h => h) (Or.inl (Or.inl ⟨by rfl, ?_⟩)) hS ?_
            rotate_left
            focus ((intro w hSw; (try dsimp only at hSw); have f1 := hSw.cell HF1.out; have f2 := hSw.cell HF2.out; go_simp); (try with_reducible rfl))
            intro wq' hwq
            subst hwq
            (try simp only [Act.put, List.setIfInBounds_toArray, List.set_cons_zero, List.set_cons_succ])
            refine wpAnyK_take (fun _ => rfl) (fun _ _ _ h k => h.trans k) (fun _ _ h k => k ▸ h) (i := 1) (oi := { dst := some 75, op := _, type := _, pos := _, after := _, guard := _ }) (v := ?_) rfl (by kernel_rfl) (by kernel_rfl) (by kernel_rfl) (fun _ _ _ h => h) (Or.inl (Or.inl ⟨by rfl, ?_⟩)) hS ?_
            rotate_left
            focus ((intro w hSw; (try dsimp only at hSw); have f1 := hSw.cell HF1.out; have f2 := hSw.cell HF2.out; go_simp); (try with_reducible rfl))
            intro wq' hwq
            subst hwq
            (try simp only [Act.put, List.setIfInBounds_toArray, List.set_cons_zero, List.set_cons_succ])
            refine wpAnyK_take (fun _ => rfl) (fun _ _ _ h k => h.trans k) (fun _ _ h k => k ▸ h) (i := 2) (oi := { dst := some 76, op := _, type := _, pos := _, after := _, guard := _ }) (v := ?_) rfl (by kernel_rfl) (by kernel_rfl) (by kernel_rfl) (fun _ _ _ h => h) (Or.inl (Or.inl ⟨by rfl, ?_⟩)) hS ?_
            rotate_left
            focus ((intro w hSw; (try dsimp only at hSw); have f1 := hSw.cell HF1.out; have f2 := hSw.cell HF2.out; go_simp); (try with_reducible rfl))
            intro wq' hwq
            subst hwq
            (try simp only [Act.put, List.setIfInBounds_toArray, List.set_cons_zero, List.set_cons_succ])
            refine wpAnyK_take (fun _ => rfl) (fun _ _ _ h k => h.trans k) (fun _ _ h k => k ▸ h) (i := 3) (oi := { dst := some 77, op := _, type := _, pos := _, after := _, guard := _ }) (v := ?_) rfl (by kernel_rfl) (by kernel_rfl) (by kernel_rfl) (fun _ _ _ h => h) (Or.inl (Or.inl ⟨by rfl, ?_⟩)) hS ?_
            rotate_left
            focus ((intro w hSw; (try dsimp only at hSw); have f1 := hSw.cell HF1.out; have f2 := hSw.cell HF2.out; go_simp); (try with_reducible rfl))
            intro wq' hwq
            subst hwq
            (try simp only [Act.put, List.setIfInBounds_toArray, List.set_cons_zero, List.set_cons_succ])
            refine wpAnyK_take (fun _ => rfl) (fun _ _ _ h k => h.trans k) (fun _ _ h k => k ▸ h) (i := 4) (oi := { dst := some 78, op := _, type := _, pos := _, after := _, guard := _ }) (v := ?_) rfl (by kernel_rfl) (by kernel_rfl) (by kernel_rfl) (fun _ _ _ h => h) (Or.inl (Or.inl ⟨by rfl, ?_⟩)) hS ?_
            rotate_left
            focus ((intro w hSw; (try dsimp only at hSw); have f1 := hSw.cell HF1.out; have f2 := hSw.cell HF2.out; go_simp); (try with_reducible rfl))
            intro wq' hwq
            subst hwq
            (try simp only [Act.put, List.setIfInBounds_toArray, List.set_cons_zero, List.set_cons_succ])
            refine wpAnyK_take (fun _ => rfl) (fun _ _ _ h k => h.trans k) (fun _ _ h k => k ▸ h) (i := 5) (oi := { dst := some 79, op := _, type := _, pos := _, after := _, guard := _ }) (v := ?_) rfl (by kernel_rfl) (by kernel_rfl) (by kernel_rfl) (fun _ _ _ h => h) (Or.inl (Or.inl ⟨by rfl, ?_⟩)) hS ?_
            rotate_left
            focus ((intro w hSw; (try dsimp only at hSw); have f1 := hSw.cell HF1.out; have f2 := hSw.cell HF2.out; go_simp); (try with_reducible rfl))
            intro wq' hwq
            subst hwq
            (try simp only [Act.put, List.setIfInBounds_toArray, List.set_cons_zero, List.set_cons_succ])
            refine wpAnyK_take (fun _ => rfl) (fun _ _ _ h k => h.trans k) (fun _ _ h k => k ▸ h) (i := 6) (oi := { dst := some 80, op := _, type := _, pos := _, after := _, guard := _ }) (v := ?_) rfl (by kernel_rfl) (by kernel_rfl) (by kernel_rfl) (fun _ _ _ h => h) (Or.inl (Or.inl ⟨by rfl, ?_⟩)) hS ?_
            rotate_left
            focus ((intro w hSw; (try dsimp only at hSw); have f1 := hSw.cell HF1.out; have f2 := hSw.cell HF2.out; go_simp); (try with_reducible rfl))
            intro wq' hwq
            subst hwq
            (try simp only [Act.put, List.setIfInBounds_toArray, List.set_cons_zero, List.set_cons_succ])
            refine wpAnyK_take (fun _ => rfl) (fun _ _ _ h k => h.trans k) (fun _ _ h k => k ▸ h) (i := 7) (oi := { dst := some 81, op := _, type := _, pos := _, after := _, guard := _ }) (v := ?_) rfl (by kernel_rfl) (by kernel_rfl) (by kernel_rfl) (fun _ _ _ h => h) (Or.inl (Or.inl ⟨by rfl, ?_⟩)) hS ?_
            rotate_left
            focus ((intro w hSw; (try dsimp only at hSw); have f1 := hSw.cell HF1.out; have f2 := hSw.cell HF2.out; go_simp); (try with_reducible rfl))
            intro wq' hwq
            subst hwq
            (try simp only [Act.put, List.setIfInBounds_toArray, List.set_cons_zero, List.set_cons_succ])
            refine wpAnyK_take (fun _ => rfl) (fun _ _ _ h k => h.trans k) (fun _ _ h k => k ▸ h) (i := 8) (oi := { dst := some 82, op := _, type := _, pos := _, after := _, guard := _ }) (v := ?_) rfl (by kernel_rfl) (by kernel_rfl) (by kernel_rfl) (fun _ _ _ h => h) (Or.inl (Or.inl ⟨by rfl, ?_⟩)) hS ?_
            rotate_left
            focus ((intro w hSw; (try dsimp only at hSw); have f1 := hSw.cell HF1.out; have f2 := hSw.cell HF2.out; go_simp); (try with_reducible rfl))
            intro wq' hwq
            subst hwq
            (try simp only [Act.put, List.setIfInBounds_toArray, List.set_cons_zero, List.set_cons_succ])
            refine wpAnyK_take (fun _ => rfl) (fun _ _ _ h k => h.trans k) (fun _ _ h k => k ▸ h) (i := 9) (oi := { dst := some 83, op := _, type := _, pos := _, after := _, guard := _ }) (v := ?_) rfl (by kernel_rfl) (by kernel_rfl) (by kernel_rfl) (fun _ _ _ h => h) (Or.inl (Or.inl ⟨by rfl, ?_⟩)) hS ?_
            rotate_left
            focus ((intro w hSw; (try dsimp only at hSw); have f1 := hSw.cell HF1.out; have f2 := hSw.cell HF2.out; go_simp); (try with_reducible rfl))
            intro wq' hwq
            subst hwq
            (try simp only [Act.put, List.setIfInBounds_toArray, List.set_cons_zero, List.set_cons_succ])
            refine wpAnyK_take (fun _ => rfl) (fun _ _ _ h k => h.trans k) (fun _ _ h k => k ▸ h) (i := 10) (oi := { dst := some 84, op := _, type := _, pos := _, after := _, guard := _ }) (v := ?_) rfl (by kernel_rfl) (by kernel_rfl) (by kernel_rfl) (fun _ _ _ h => h) (Or.inl (Or.inl ⟨by rfl, ?_⟩)) hS ?_
            rotate_left
            focus ((intro w hSw; (try dsimp only at hSw); have f1 := hSw.cell HF1.out; have f2 := hSw.cell HF2.out; go_simp); (try with_reducible rfl))
            intro wq' hwq
            subst hwq
            (try simp only [Act.put, List.setIfInBounds_toArray, List.set_cons_zero, List.set_cons_succ])
            refine wpAnyK_take (fun _ => rfl) (fun _ _ _ h k => h.trans k) (fun _ _ h k => k ▸ h) (i := 11) (oi := { dst := some 85, op := _, type := _, pos := _, after := _, guard := _ }) (v := ?_) rfl (by kernel_rfl) (by kernel_rfl) (by kernel_rfl) (fun _ _ _ h => h) (Or.inl (Or.inl ⟨by rfl, ?_⟩)) hS ?_
            rotate_left
            focus ((intro w hSw; (try dsimp only at hSw); have f1 := hSw.cell HF1.out; have f2 := hSw.cell HF2.out; go_simp); (try with_reducible rfl))
            intro wq' hwq
            subst hwq
            (try simp only [Act.put, List.setIfInBounds_toArray, List.set_cons_zero, List.set_cons_succ])
            refine wpAnyK_take (fun _ => rfl) (fun _ _ _ h k => h.trans k) (fun _ _ h k => k ▸ h) (i := 12) (oi := { dst := some 86, op := _, type := _, pos := _, after := _, guard := _ }) (v := ?_) rfl (by kernel_rfl) (by kernel_rfl) (by kernel_rfl) (fun _ _ _ h => h) (Or.inl (Or.inl ⟨by rfl, ?_⟩)) hS ?_
            rotate_left
            focus ((intro w hSw; (try dsimp only at hSw); have f1 := hSw.cell HF1.out; have f2 := hSw.cell HF2.out; go_simp); (try with_reducible rfl))
            intro wq' hwq
            subst hwq
            (try simp only [Act.put, List.setIfInBounds_toArray, List.set_cons_zero, List.set_cons_succ])
            refine wpAnyK_take (fun _ => rfl) (fun _ _ _ h k => h.trans k) (fun _ _ h k => k ▸ h) (i := 13) (oi := { dst := some 87, op := _, type := _, pos := _, after := _, guard := _ }) (v := ?_) rfl (by kernel_rfl) (by kernel_rfl) (by kernel_rfl) (fun _ _ _ h => h) (Or.inl (Or.inl ⟨by rfl, ?_⟩)) hS ?_
            rotate_left
            focus ((intro w hSw; (try dsimp only at hSw); have f1 := hSw.cell HF1.out; have f2 := hSw.cell HF2.out; go_simp); (try with_reducible rfl))
            intro wq' hwq
            subst hwq
            (try simp only [Act.put, List.setIfInBounds_toArray, List.set_cons_zero, List.set_cons_succ])
            refine wpAnyK_take (fun _ => rfl) (fun _ _ _ h k => h.trans k) (fun _ _ h k => k ▸ h) (i := 14) (oi := { dst := some 88, op := _, type := _, pos := _, after := _, guard := _ }) (v := ?_) rfl (by kernel_rfl) (by kernel_rfl) (by kernel_rfl) (fun _ _ _ h => h) (Or.inl (Or.inl ⟨by rfl, ?_⟩)) hS ?_
            rotate_left
            focus ((intro w hSw; (try dsimp only at hSw); have f1 := hSw.cell HF1.out; have f2 := hSw.cell HF2.out; go_simp); (try with_reducible rfl))
            intro wq' hwq
            subst hwq
            (try simp only [Act.put, List.setIfInBounds_toArray, List.set_cons_zero, List.set_cons_succ])
            refine wpAnyK_take (fun _ => rfl) (fun _ _ _ h k => h.trans k) (fun _ _ h k => k ▸ h) (i := 15) (oi := { dst := some 18, op := _, type := _, pos := _, after := _, guard := _ }) (v := ?_) rfl (by kernel_rfl) (by kernel_rfl) (by kernel_rfl) (fun _ _ _ h => h) (Or.inl (Or.inl ⟨by rfl, ?_⟩)) hS ?_
            rotate_left
            focus ((intro w hSw; (try dsimp only at hSw); skip; go_simp); (try with_reducible rfl))
            intro wq' hwq
            subst hwq
            (try simp only [Act.put, List.setIfInBounds_toArray, List.set_cons_zero, List.set_cons_succ])
            refine wpAnyK_take (fun _ => rfl) (fun _ _ _ h k => h.trans k) (fun _ _ h k => k ▸ h) (i := 16) (oi := { dst := some 19, op := _, type := _, pos := _, after := _, guard := _ }) (v := ?_) rfl (by kernel_rfl) (by kernel_rfl) (by kernel_rfl) (fun _ _ _ h => h) (Or.inl (Or.inl ⟨by rfl, ?_⟩)) hS ?_
            rotate_left
            focus ((intro w hSw; (try dsimp only at hSw); skip; go_simp); (try with_reducible rfl))
            intro wq' hwq
            subst hwq
            (try simp only [Act.put, List.setIfInBounds_toArray, List.set_cons_zero, List.set_cons_succ])
            refine wpAnyK_done (by kernel_rfl) ?_ _
            have HS2 := Lib.hid hS
            clear hS
            go_wp2_with fail
            go_meet
            exact ⟨rfl, rfl, HS2.out⟩
          case rest =>
          obtain ⟨rfl, rfl, lx⟩ := hcut
          have HOX := Lib.hid (own_later HOWN.out lx)
          have HOY := Lib.hid (own_later HOWM.out lx)
          have HLX := Lib.hid (HLAT.out.trans lx)
          have HBK := Lib.hid (fun (wz : World) (T : TypeId) => Blk.new wz #[.int .i64 op, .int .i64 ((aq : Int) - 1)] T wz.heap.size rfl)
          have HOA := Lib.hid (fun (o : Obj) => own_later HOX.out (Later.new wc o))
          have HOB := Lib.hid (fun (o : Obj) => own_later HOY.out (Later.new wc o))
          have hs1 := HLX.out.size
          clear lx HF1 HF2 hx1 hx2 hy1 hy2 hx
          go_wp2_with (first
            | (at_builtin; refine wpList_append_g _ rfl (.tmp 89) (.tmp 93) 61 rfl w6.heap.size 65 _ 2 16 Tryd.underlying61 info_aa rfl (by decide) _ k _ rfl (HOA.out _) _ 1 1 [.int .i64 op, .int .i64 ((aq : Int) - 1)] rfl (HBK.out wc _).has rfl (by intro h; cases h) (by intro u hu; simp only [List.mem_cons, List.not_mem_nil, or_false] at hu; rcases hu with rfl | rfl <;> rfl) (by unfold maxLen; omega) (by omega) (by simp; omega) ?_; rintro A' c' wq hO hgr hbel hn2; have HO2 := Lib.hid hO; have HN2 := Lib.hid hn2; have HL3 := Lib.hid (Later.of ((HLX.out.alloc _).below.trans hbel)); have HOC := Lib.hid (fun (o : Obj) => own_later (own_other (HOB.out _) (HOA.out _) (by decide) hgr) (Later.new wq o)); have HOD := Lib.hid (fun (o : Obj) => own_later HO2.out (Later.new wq o)); have hs2 := HL3.out.size; clear hO hn2 hbel hgr)
            | (at_builtin; refine wpList_append_g _ rfl (.tmp 95) (.tmp 99) 62 rfl w6.heap.size 66 _ 2 16 Tryd.underlying62 info_ra rfl (by decide) _ k _ rfl (HOC.out _) _ 1 1 [.int .i64 op, .int .i64 ((aq : Int) - 1)] rfl (HBK.out wq _).has rfl (by intro h; cases h) (by intro u hu; simp only [List.mem_cons, List.not_mem_nil, or_false] at hu; rcases hu with rfl | rfl <;> rfl) (by unfold maxLen; omega) (by omega) (by simp; omega) ?_; rintro B' d' wz hO hgr hbel hn2; have HO3 := Lib.hid hO; have HN3 := Lib.hid hn2; have HL4 := Lib.hid (Later.of ((HL3.out.alloc _).below.trans hbel)); have HOE := Lib.hid (own_other (HOD.out _) (HOC.out _) (by decide) hgr); clear hO hn2 hbel hgr))
          go_roundw
          case rel => exact PrI.mk _ (k + 1) _ _ _ _ _ _ (by omega) rfl rfl hlt (by rw [HF.out]; exact HOE.out) (by rw [HF.out]; exact HO3.out) HN2.out HN3.out HL4.out
          case measure => simp [intOf]; omega
        · obtain rfl : k = al.length := by omega
          have htk : (al.map aggOf).take al.length = al.map aggOf := List.take_of_length_le (by rw [List.length_map]; exact Nat.le_refl _)
          have HPH := Lib.hid (show Has wr P (fa (al.map aggOf)) from by have h := Has.ownG HOWN.out; rwa [htk] at h)
          have HQH := Lib.hid (show Has wr Q (fa (al.map aggOf)) from by have h := Has.ownG HOWM.out; rwa [htk] at h)
          have HKW := Lib.hid (HKH.out.later lat)
          have HZW := Lib.hid (HZ6.out.later lat)
          have HL7 := Lib.hid (HL6.out.trans lat)
          have hh20 : heightC (colsOf zs) ≤ 20 := by rw [HHT.out]; exact hq20
          have HRUN := Lib.hid ((aggRun_any (some ⟨gz, 0, none⟩) X P vn vn bl.length xc al.length pc zs (bl.map byOf) (al.map aggOf) a0 a1 a2 wr (HS.out.later HL7.out) HZL.out.symm (by omega) (by rw [List.length_map]) (by omega) (by rw [List.length_map]) (by omega) HZW.out HKW.out HPH.out (fun s hs => by rw [(HZ20.out s hs).1]; omega) hh20 (fun s hs x hx => ((HZ20.out s hs).2 x hx).2)).mono (fun e w' h => both_of (by omega) (by rw [List.length_map]; omega) (by rw [List.length_map]; omega) h))
          clear HOWN HOWM HNIL HNIM HLAT htk hh20 lat HZ6 HL6 HKH HPH
          go_wp2_with fail
          refine HRUN.out.mono ?_
          rintro e w7 ⟨Y, yc, ym, rs, en, rfl, hym, hout, hrs, hym1, hrl, l7⟩
          have HYM := Lib.hid hym
          have HOUT := Lib.hid hout
          have HRS := Lib.hid hrs
          have HRL := Lib.hid hrl
          have HL8 := Lib.hid (HL7.out.trans l7)
          have hh20 : heightC (colsOf zs) ≤ 20 := by rw [HHT.out]; exact hq20
          have HGRP := Lib.hid ((refGroup_any (some ⟨gz, 0, none⟩) X Q vn vn bl.length xc al.length qc zs (bl.map byOf) (al.map aggOf) w7 HZL.out.symm (by omega) (by rw [List.length_map]) (by omega) (by rw [List.length_map]) (by omega) (HZW.out.later l7) (HKW.out.later l7) (HQH.out.later l7) (fun s hs => by rw [(HZ20.out s hs).1]; omega) hh20 (fun s hs x hx => ((HZ20.out s hs).2 x hx).2)).mono (fun e w' h => both_of (by omega) (by rw [List.length_map]; omega) (by rw [List.length_map]; omega) h))
          clear hym hout hrs hrl l7 HRUN hh20
          go_wp2_with fail
          refine HGRP.out.mono ?_
          rintro e w8 ⟨Z, zc, zm, ts, em, rfl, hzm, hout2, hts, hzm1, htl, l8⟩
          obtain ⟨he, hrt⟩ := HOUT.out.same hout2
          subst he
          have HSR := Lib.hid (refSameRows_any Y Z ym zm yc zc rs ts w8 HYM.out hzm hym1 hzm1 (HRS.out.later l8) hts HRL.out htl)
          have HL9 := Lib.hid (HL8.out.trans l8)
          have HRT := Lib.hid hrt
          clear hzm hout2 hts htl l8 HGRP HOUT HRS HRL hrt
          go_wp2_with fail
          refine HSR.out.mono ?_
          rintro e w9 ⟨rb, hrb, rfl, l9⟩
          obtain rfl : rb = true := hrb.2 HRT.out
          have HLA := Lib.hid (HL9.out.trans l9)
          clear hrb l9 HSR
          go_wp2_with fail
          go_ret
          exact ⟨rfl, HLA.out⟩
end Go.Proofs.YtkdpjocglfephaaDoor
