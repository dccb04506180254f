/- The walk of PackMoved. -/
import Derived.Test.YtdhaagooiioglaaDoorPackLaw
import Derived.BigQuiet
import Derived.Deep.RegionHeld3
namespace Go.Proofs.YtdhaagooiioglaaDoor
open Go.RowKit
set_option linter.unusedVariables false

/-- append to a row of one's own beside another one's. -/
theorem wpList_append_two {P : Program} (w : World) {ops : Array Oper} {rest : List Oper} {o : Oper} {a : Act} {Q : Exit → Act → World → Prop} (hgd : o.guard = none) (s x : Operand) (t : TypeId)
    (ho : o.op = .call { callee := .builtin .append, args := #[s, x], argTypes := #[t, t] })
    (base : Nat) (e : TypeId) (z : Value) (size bytes : Nat) (ht : P.underlying t = some (.slice e)) (hinfo : (P.info? e).map (fun i => (i.zero, i.size, i.bytes)) = some (some z, size, bytes)) (hzs : z.cells.size = size) (hsz0 : 0 < size)
    (v : Value) (n : Nat) (xs : List Value) (hs : a.eval s = v) (hown : w.ownsRow base e size v n xs)
    (b off m c : Nat) (news : List Value) (hx : a.eval x = .slice (some ⟨b, off, none⟩) m c) (hr : Has w (some ⟨b, off, none⟩) news) (hm : news.length = m * size) (h1 : ∀ u ∈ news, u.oneCell' = true)
    (h63 : n + m ≤ maxLen) (hbytes : (n + m) * bytes ≤ 140737488355328) (hbase : base ≤ w.heap.size)
    (v2 : Value) (n2 : Nat) (xs2 : List Value) (hown2 : w.ownsRow base e size v2 n2 xs2) (hne : ∀ g, v2.ownBlock = some g → v.ownBlock ≠ some g)
    (h : ∀ A' c' w', w'.ownsRow base e size (.slice A' (n + m) c') (n + m) (xs ++ news) → Below base w w' → w'.ownsRow base e size v2 n2 xs2 → (∀ g, v2.ownBlock = some g → (Value.slice A' (n + m) c').ownBlock ≠ some g) → wpList P ops Q rest (a.put o.dst (.slice A' (n + m) c')) w') : wpList P ops Q (o :: rest) a w := by
  obtain ⟨i, hi, hz, hsz, hby⟩ := info_parts hinfo
  have hcells : ∀ j u, news[j]? = some u → w.cell? ((⟨b, off, none⟩ : Addr).add j) = some u := by
    intro j u hu
    rcases hr with h | ⟨b', off', h, _, hc⟩
    · subst h; simp at hu
    · injection h with h
      injection h with h1 h2
      subst h1 h2
      rw [add_plain]
      exact hc j u hu
  refine wpList_append_own_at w hgd s x t ho base e i z size bytes ht hi hz hsz hby hzs hsz0 v n xs hs hown ⟨b, off, none⟩ m c news hx hm hcells h1 h63 hbytes hbase fun v' w' h2 h3 _ hat => ?_
  obtain ⟨A', c', hv, hc'⟩ := ownG_shape h2
  subst hv
  refine h A' c' w' h2 ((Below.refl _ _).grown h3 hbase fun k hk => (hown.lt k hk).1) ?_ fun g hg => ?_
  · have hlt := hown2.lt
    obtain ⟨p1, p2⟩ := hown2
    refine ⟨p1, ?_⟩
    rcases p2 with p2 | ⟨g, cap, cur, ha, hb, hg, hrest⟩
    · exact .inl p2
    · have e2 : v2.ownBlock = some g := by rw [ha]; rfl
      exact .inr ⟨g, cap, cur, ha, hb, (h3.block g (hlt g e2).2 (fun e => hne g e2 e.symm)).trans hg, hrest⟩
  · rcases hat with e | e
    · rw [e]; exact hne g hg
    · rw [e]; intro e2; injection e2 with e2
      have := (hown2.lt g hg).2
      omega

/-- Numbers as values; the same ones moved. -/
def pv (d : Int) (l : List Nat) : List Val3 := l.map fun (x : Nat) => ((2 : Int), (x : Int) + d, (⟨#[]⟩ : ByteArray))
theorem pv_len (d : Int) (l : List Nat) : (pv d l).length = l.length := List.length_map _
theorem pv_take (d : Int) (l : List Nat) (j : Nat) (h : j < l.length) : pv d (l.take (j + 1)) = pv d (l.take j) ++ [(2, (l[j] : Int) + d, ⟨#[]⟩)] := by
  unfold pv; rw [List.take_succ_eq_append_getElem h, List.map_append]; rfl
theorem pv_ok (d : Int) (l : List Nat) : OkL 2 (pv d l) := fun x hx => by
  obtain ⟨i, _, rfl⟩ := List.mem_map.1 hx
  exact ⟨rfl, by unfold MayV; right; right; left; exact ⟨rfl, rfl⟩⟩
theorem pv_64 (d : Int) (l : List Nat) (hd : -2147483648 ≤ d ∧ d ≤ 2147483647) (h : ∀ x ∈ l, x < 256) : All64 (pv d l) := fun x hx => by
  obtain ⟨i, hi, rfl⟩ := List.mem_map.1 hx
  have := h i hi
  unfold In64
  show _ ≤ (i : Int) + d ∧ (i : Int) + d ≤ _
  omega
theorem lowF_pv (d : Int) : ∀ (l : List Nat) (m : Int), lowF (m + d) (pv d l) = lowF m (pv 0 l) + d
  | [], m => rfl
  | x :: r, m => by
    show lowF (min (m + d) ((x : Int) + d)) (pv d r) = lowF (min m ((x : Int) + 0)) (pv 0 r) + d
    rw [show min (m + d) ((x : Int) + d) = min m ((x : Int) + 0) + d by omega, lowF_pv d r]
theorem lowI_pv (d : Int) (l : List Nat) (h : 0 < l.length) : lowI (pv d l) = lowI (pv 0 l) + d := by
  match l, h with
  | x :: r, _ =>
    show lowF ((x : Int) + d) (pv d (x :: r)) = lowF ((x : Int) + 0) (pv 0 (x :: r)) + d
    rw [← lowF_pv d (x :: r) ((x : Int) + 0), Int.add_zero]
theorem above_pv (d m : Int) (l : List Nat) : aboveL (m + d) (pv d l) = aboveL m (pv 0 l) := by
  unfold aboveL pv
  rw [List.map_map, List.map_map]
  refine List.map_congr_left fun x _ => ?_
  show ((x : Int) + d - (m + d)).toNat = ((x : Int) + 0 - m).toNat
  congr 1
  omega
/-- The two have the same bytes behind the least. -/
theorem pack_tail (d : Int) (l : List Nat) (h : 0 < l.length) : ∃ R : List Nat, 0 < R.length ∧ packB (pv 0 l) = putNum (zig (lowI (pv 0 l))) ++ R ∧ packB (pv d l) = putNum (zig (lowI (pv d l))) ++ R := by
  have hne : ∀ q, pv q l ≠ [] := fun q e => by have := congrArg List.length e; rw [pv_len] at this; simp at this; rw [this] at h; simp at h
  refine ⟨widA (pv 0 l) :: putBits (aboveL (lowI (pv 0 l)) (pv 0 l)) (widA (pv 0 l)), by simp, by unfold packB; rw [if_neg (hne 0)], ?_⟩
  have e1 : aboveL (lowI (pv d l)) (pv d l) = aboveL (lowI (pv 0 l)) (pv 0 l) := by rw [lowI_pv d l h, above_pv]
  have e2 : widA (pv d l) = widA (pv 0 l) := by unfold widA; rw [e1]
  unfold packB
  rw [if_neg (hne d), e1, e2]
theorem last_same {P R : List Nat} (h : 0 < R.length) : ∃ hk : (P ++ R).length - 1 < (P ++ R).length, (P ++ R)[(P ++ R).length - 1] = R[R.length - 1]'(by omega) := by
  refine ⟨by rw [List.length_append]; omega, ?_⟩
  rw [List.getElem_append_right (by rw [List.length_append]; omega)]
  congr 1
  rw [List.length_append]; omega
theorem pv_put (d : Int) (l : List Nat) : putK 2 (pv d l) = some (packB (pv d l)) := by unfold putK; rw [if_pos ⟨.inr (.inl rfl), pv_ok d l⟩]

def MoInv (bs : List Nat) (d : Int) (w : World) (av bv iv : Value) (wr : World) : Prop :=
  ∃ (A B : Option Addr) (ca cb j : Nat), j ≤ bs.length ∧ iv = .int .i64 (j : Int) ∧ av = .slice A j ca ∧ bv = .slice B j cb ∧ wr.ownsRow w.heap.size 26 3 (.slice A j ca) j (fl (pv 0 (bs.take j))) ∧ wr.ownsRow w.heap.size 26 3 (.slice B j cb) j (fl (pv d (bs.take j))) ∧ (∀ g, (Value.slice B j cb).ownBlock = some g → (Value.slice A j ca).ownBlock ≠ some g) ∧ Later w wr
theorem MoInv.mk {bs : List Nat} {d : Int} {w wr : World} (A B : Option Addr) (ca cb ma mb j : Nat) (i : Int) (ha : ma = j) (hb : mb = j) (hj : j ≤ bs.length) (hi : i = (j : Int)) (h1 : wr.ownsRow w.heap.size 26 3 (.slice A ma ca) ma (fl (pv 0 (bs.take j)))) (h2 : wr.ownsRow w.heap.size 26 3 (.slice B mb cb) mb (fl (pv d (bs.take j)))) (h3 : ∀ g, (Value.slice B mb cb).ownBlock = some g → (Value.slice A ma ca).ownBlock ≠ some g) (h4 : Later w wr) : MoInv bs d w (.slice A ma ca) (.slice B mb cb) (.int .i64 i) wr := by
  subst ha hb hi; exact ⟨A, B, ca, cb, _, hj, rfl, rfl, rfl, h1, h2, h3, h4⟩

set_option maxRecDepth 100000 in
theorem packMoved_long (A : Option Addr) (n c : Nat) (d : Int) (w : World) (hs : S6 w) (h : n < 1 ∨ 60 < n) :
    Calls Tryd.prog 7 #[.slice A n c, .int .i32 d] w fun e w' => e = .returned (.bool true) ∧ Later w w' := by
  have HB := Lib.hid (begun8_any w hs)
  clear hs
  go_enter Tryd.func7, Tryd.ntmps7
  go_wp2_with fail
  refine HB.out.mono ?_
  rintro e w1 ⟨rfl, l1⟩
  by_cases h1 : n < 1
  · have d1 : decide ((n : Int) < 1) = true := decide_eq_true (by omega)
    clear h
    go_wp2_with fail
    go_ret
    exact ⟨rfl, l1⟩
  · have d1 : decide ((n : Int) < 1) = false := by simp; omega
    have d2 : decide ((60 : Int) < (n : Int)) = true := decide_eq_true (by omega)
    clear h h1
    go_wp2_with fail
    go_ret
    exact ⟨rfl, l1⟩

set_option maxRecDepth 100000 in
set_option maxHeartbeats 4000000 in
theorem packMoved_walk (A : Option Addr) (c : Nat) (bs : List Nat) (d : Int) (w : World) (hs : S6 w) (hn1 : 1 ≤ bs.length) (hn : bs.length ≤ 60) (hr : Has w A (ints .u8 bs)) (h256 : ∀ x ∈ bs, x < 256) (hd : -2147483648 ≤ d ∧ d ≤ 2147483647) :
    Calls Tryd.prog 7 #[.slice A bs.length c, .int .i32 d] w fun e w' => e = .returned (.bool true) ∧ Later w w' := by
  have HB := Lib.hid (begun8_any w hs)
  have HS := Lib.hid hs
  have HR := Lib.hid hr
  have H256 := Lib.hid h256
  have HD := Lib.hid hd
  obtain ⟨n, hnn⟩ : ∃ n, n = bs.length := ⟨_, rfl⟩
  rw [← hnn] at hn1 hn ⊢
  have HN := Lib.hid hnn
  have hdw : IntKind.i64.wrap d = d := IntWalk.i64_in _ ⟨by omega, by omega⟩
  have d1 : decide ((n : Int) < 1) = false := by simp; omega
  have d2 : decide ((60 : Int) < (n : Int)) = false := by simp; omega
  clear hs hr h256 hd hnn
  go_enter Tryd.func7, Tryd.ntmps7
  go_wp2_with fail
  refine HB.out.mono ?_
  rintro e w1 ⟨rfl, l1⟩
  have HL1 := Lib.hid l1
  clear l1 HB
  go_wp2_with fail
  go_loopw [5, 6, 7] (fun av bv iv wr => MoInv bs d w av bv iv wr) (fun _ _ iv _ => n - (intOf iv).toNat)
  case atStart => exact MoInv.mk none none 0 0 0 0 0 _ rfl rfl (Nat.zero_le _) rfl (ownG_nil _ _ _ _) (ownG_nil _ _ _ _) (fun g h => by cases h) HL1.out
  case round =>
    obtain ⟨Aa, Bb, ca, cb, j, hj, rfl, rfl, rfl, ho1, ho2, hne, lat⟩ := hrel
    by_cases hlt : j < n
    · have hjb : j < bs.length := by have := HN.out; omega
      obtain ⟨b, off, rfl, hcell⟩ : ∃ b off, A = some ⟨b, off, none⟩ ∧ CellIs w ⟨b, off + j, none⟩ (.int .u8 ((bs[j] : Nat) : Int)) := by
        rcases HR.out with h | ⟨ub, uo, h1, _, hc⟩
        · have h2 : bs.length = 0 := by have h := congrArg List.length h; rw [ints_length] at h; exact h
          omega
        · exact ⟨ub, uo, h1, hc j _ (by rw [ints_get _ _ _ hjb])⟩
      have hx256 := H256.out _ (List.getElem_mem hjb)
      have HTA := Lib.hid (pv_take 0 bs j hjb)
      have HTB := Lib.hid (pv_take d bs j hjb)
      generalize bs[j] = x at hcell hx256 HTA HTB
      have hcx := (hcell.later lat).out
      have hxw : IntKind.i64.wrap (x : Int) = (x : Int) := IntWalk.i64_in _ ⟨by omega, by omega⟩
      obtain ⟨y, hy⟩ : ∃ y, y = (x : Int) + d := ⟨_, rfl⟩
      have hyw : IntKind.i64.wrap ((x : Int) + d) = y := by rw [← hy]; have := HD.out; exact IntWalk.i64_in _ ⟨by omega, by omega⟩
      rw [← hy] at HTB
      rw [Int.add_zero] at HTA
      have HAS := Lib.hid ((Blk.new wr (fl [((2 : Int), (x : Int), (⟨#[]⟩ : ByteArray))]).toArray 26 _ rfl).has)
      have O1 := Lib.hid (ho1.alloc (.cells (fl [((2 : Int), (x : Int), (⟨#[]⟩ : ByteArray))]).toArray 26))
      have O2 := Lib.hid (ho2.alloc (.cells (fl [((2 : Int), (x : Int), (⟨#[]⟩ : ByteArray))]).toArray 26))
      have LT := Lib.hid (lat.alloc (.cells (fl [((2 : Int), (x : Int), (⟨#[]⟩ : ByteArray))]).toArray 26))
      have HNE := Lib.hid hne
      have HJB := Lib.hid hjb
      have HCX := Lib.hid hcell
      have hj60 : j < 60 := by omega
      have i0 : (0 : Int) ≤ (j : Int) := by omega
      have i1 : (j : Int) < (n : Int) := by omega
      clear ho1 ho2 hne lat hy hjb hx256 hcell hj
      go_wp2_with (first
        | (at_builtin; refine wpList_append_two _ rfl (.tmp 34) (.tmp 41) 23 rfl w.heap.size 26 (vagg 0 0 ⟨#[]⟩) 3 32 Tryd.underlying23 info_v rfl (by decide) _ j (fl (pv 0 (bs.take j))) rfl O1.out _ _ 1 1 (fl [((2 : Int), (x : Int), (⟨#[]⟩ : ByteArray))]) rfl HAS.out (by rfl) (fl_one _) (by unfold maxLen; omega) (by omega) LT.out.size _ j (fl (pv d (bs.take j))) O2.out HNE.out ?_; intro A2 c2 w6 o2 b2 p2 n2; have HO1 := Lib.hid o2; have HP2 := Lib.hid p2; have HN2 := Lib.hid n2; have HB6 := Lib.hid (Later.of (LT.out.below.trans b2)); have hcx := (HCX.out.later HB6.out).out; have HAS6 := Lib.hid ((Blk.new w6 (fl [((2 : Int), y, (⟨#[]⟩ : ByteArray))]).toArray 26 _ rfl).has); clear o2 b2 p2 n2)
        | (at_builtin; refine wpList_append_two _ rfl (.tmp 43) (.tmp 53) 23 rfl w.heap.size 26 (vagg 0 0 ⟨#[]⟩) 3 32 Tryd.underlying23 info_v rfl (by decide) _ j (fl (pv d (bs.take j))) rfl (HP2.out.alloc _) _ _ 1 1 (fl [((2 : Int), y, (⟨#[]⟩ : ByteArray))]) rfl HAS6.out (by rfl) (fl_one _) (by unfold maxLen; omega) (by omega) (HB6.out.alloc _).size _ (j + 1) (fl (pv 0 (bs.take j)) ++ fl [((2 : Int), (x : Int), (⟨#[]⟩ : ByteArray))]) (HO1.out.alloc _) (fun g hg e => HN2.out g e hg) ?_; intro A3 c3 w7 o3 b3 p3 n3; have HO3 := Lib.hid o3; have HP3 := Lib.hid p3; have HN3 := Lib.hid n3; have HB7 := Lib.hid (Later.of ((HB6.out.alloc (.cells (fl [((2 : Int), y, (⟨#[]⟩ : ByteArray))]).toArray 26)).below.trans b3)); clear o3 b3 p3 n3))
      go_roundw
      case rel => exact MoInv.mk A2 A3 c2 c3 _ _ (j + 1) _ rfl rfl HJB.out (by go_num) (by rw [HTA.out, fl_append]; exact HP3.out) (by rw [HTB.out, fl_append]; exact HO3.out) (fun g hg e => HN3.out g e hg) HB7.out
      case measure => simp [intOf]; omega
    · obtain rfl : j = n := by have := HN.out; omega
      rw [List.take_of_length_le (by have := HN.out; omega)] at ho1 ho2
      have la := pv_len 0 bs
      have lb := pv_len d bs
      rw [← HN.out] at la lb
      have HA1 := Lib.hid (Has.ownG ho1)
      have HB1 := Lib.hid (Has.ownG ho2)
      have HLAT := Lib.hid lat
      have HA64 := Lib.hid (pv_64 0 bs (by omega) H256.out)
      have HB64 := Lib.hid (pv_64 d bs HD.out H256.out)
      obtain ⟨X, hX⟩ : ∃ X, X = packB (pv 0 bs) := ⟨_, rfl⟩
      obtain ⟨Y, hY⟩ : ∃ Y, Y = packB (pv d bs) := ⟨_, rfl⟩
      have HX := Lib.hid (show putK 2 (pv 0 bs) = some X by rw [hX]; exact pv_put 0 bs)
      have HY := Lib.hid (show putK 2 (pv d bs) = some Y by rw [hY]; exact pv_put d bs)
      have HXY := Lib.hid (show ∃ (hx : X.length - 1 < X.length) (hy : Y.length - 1 < Y.length), X[X.length - 1] = Y[Y.length - 1] by
        obtain ⟨R, hR, e1, e2⟩ := pack_tail d bs (by have := HN.out; omega)
        obtain ⟨k1, q1⟩ := last_same (P := putNum (zig (lowI (pv 0 bs)))) hR
        obtain ⟨k2, q2⟩ := last_same (P := putNum (zig (lowI (pv d bs)))) hR
        rw [← e1] at k1
        rw [← e2] at k2
        subst hX hY
        refine ⟨k1, k2, ?_⟩
        have g1 : ∀ (Z : List Nat) (e : Z = putNum (zig (lowI (pv 0 bs))) ++ R) (k : Z.length - 1 < Z.length), Z[Z.length - 1] = R[R.length - 1]'(by omega) := by
          intro Z e k; subst e; exact q1
        have g2 : ∀ (Z : List Nat) (e : Z = putNum (zig (lowI (pv d bs))) ++ R) (k : Z.length - 1 < Z.length), Z[Z.length - 1] = R[R.length - 1]'(by omega) := by
          intro Z e k; subst e; exact q2
        rw [g1 _ e1 k1, g2 _ e2 k2])
      have HPA := Lib.hid (packPut_any 2 Aa ca (pv 0 bs) wr (HS.out.later lat) (by rw [la]; omega) HA1.out HA64.out)
      rw [la] at HPA
      clear ho1 ho2 hne lat hX hY hj hlt
      go_wp2_with fail
      refine HPA.out.mono ?_
      intro e w2 h
      obtain ⟨XA, xc, rfl, xh, hx1, hx2, _, l2⟩ := h.yes HX.out
      have HL2 := Lib.hid (HLAT.out.trans l2)
      have HXH := Lib.hid xh
      have HPB := Lib.hid (packPut_any 2 Bb cb (pv d bs) w2 (HS.out.later HL2.out) (by rw [lb]; omega) (HB1.out.later l2) HB64.out)
      rw [lb] at HPB
      clear h l2 HPA xh HA1 HB1
      go_wp2_with fail
      refine HPB.out.mono ?_
      intro e w3 h
      obtain ⟨YA, yc, rfl, yh, hy1, hy2, _, l3⟩ := h.yes HY.out
      have HL3 := Lib.hid (HL2.out.trans l3)
      have HX3 := Lib.hid (HXH.out.later l3)
      have HYH := Lib.hid yh
      have hX9 : X.length ≤ 1260 := by have := putK_le HA64.out HX.out; rw [la] at this; omega
      have hY9 : Y.length ≤ 1260 := by have := putK_le HB64.out HY.out; rw [lb] at this; omega
      have HTA := Lib.hid (packTake_any 2 (j : Int) XA xc X w3 (HS.out.later HL3.out) HX3.out (putK_lt HA64.out HX.out) (by omega) hx1 hx2)
      have HKA := Lib.hid (takeK_put HA64.out (by rw [la]; omega) HX.out)
      have HKB := Lib.hid (takeK_put HB64.out (by rw [lb]; omega) HY.out)
      rw [la] at HKA
      rw [lb] at HKB
      clear h l3 HPB yh HL2 HXH
      go_wp2_with fail
      refine HTA.out.mono ?_
      intro e w4 h
      obtain ⟨UA, uc, rfl, uh, l4⟩ := h.yes HKA.out
      have HL4 := Lib.hid (HL3.out.trans l4)
      have HX4 := Lib.hid (HX3.out.later l4)
      have HY4 := Lib.hid (HYH.out.later l4)
      have HUH := Lib.hid uh
      have HTB := Lib.hid (packTake_any 2 (j : Int) YA yc Y w4 (HS.out.later HL4.out) HY4.out (putK_lt HB64.out HY.out) (by omega) hy1 hy2)
      clear h l4 HTA uh HL3 HX3 HYH
      go_wp2_with fail
      refine HTB.out.mono ?_
      intro e w5 h
      obtain ⟨VA, vc, rfl, vh, l5⟩ := h.yes HKB.out
      have HL5 := Lib.hid (HL4.out.trans l5)
      have HX5 := Lib.hid (HX4.out.later l5)
      have HY5 := Lib.hid (HY4.out.later l5)
      have HU5 := Lib.hid (HUH.out.later l5)
      have HV5 := Lib.hid vh
      clear h l5 HTB vh HL4 HX4 HY4 HUH
      rw [lb]
      have hne0 : ((j : Int) != (j : Int)) = false := by simp
      obtain ⟨kx, ky, hxy⟩ := HXY.out
      obtain ⟨z, hz⟩ : ∃ z, z = X[X.length - 1] := ⟨_, rfl⟩
      rw [← hz] at hxy
      obtain ⟨xn, hxn⟩ : ∃ xn, xn = X.length := ⟨_, rfl⟩
      obtain ⟨yn, hyn⟩ : ∃ yn, yn = Y.length := ⟨_, rfl⟩
      obtain ⟨x1, hx1'⟩ : ∃ x1, x1 = X.length - 1 := ⟨_, rfl⟩
      obtain ⟨y1, hy1'⟩ : ∃ y1, y1 = Y.length - 1 := ⟨_, rfl⟩
      obtain ⟨xb, xo, rfl, hcx⟩ : ∃ xb xo, XA = some ⟨xb, xo, none⟩ ∧ CellIs w5 ⟨xb, xo + x1, none⟩ (.int .u8 (z : Int)) := by
        rcases HX5.out with h | ⟨ub, uo, h1, _, hc⟩
        · have h2 : X.length = 0 := by have h := congrArg List.length h; rw [ints_length] at h; exact h
          omega
        · exact ⟨ub, uo, h1, hc x1 _ (by rw [hx1', ints_get _ _ _ kx, hz])⟩
      obtain ⟨yb, yo, rfl, hcy⟩ : ∃ yb yo, YA = some ⟨yb, yo, none⟩ ∧ CellIs w5 ⟨yb, yo + y1, none⟩ (.int .u8 (z : Int)) := by
        rcases HY5.out with h | ⟨ub, uo, h1, _, hc⟩
        · have h2 : Y.length = 0 := by have h := congrArg List.length h; rw [ints_length] at h; exact h
          omega
        · exact ⟨ub, uo, h1, hc y1 _ (by rw [hy1', ints_get _ _ _ ky, hxy])⟩
      have HCX := Lib.hid hcx
      have HCY := Lib.hid hcy
      rw [← hxn, ← hyn]
      have e1 : (xn : Int) - 1 = (x1 : Int) := by omega
      have e1w : IntKind.i64.wrap ((xn : Int) - 1) = (x1 : Int) := by rw [e1]; exact IntWalk.i64_in _ ⟨by omega, by omega⟩
      have e2 : (yn : Int) - 1 = (y1 : Int) := by omega
      have e2w : IntKind.i64.wrap ((yn : Int) - 1) = (y1 : Int) := by rw [e2]; exact IntWalk.i64_in _ ⟨by omega, by omega⟩
      have i2 : (0 : Int) ≤ (x1 : Int) := by omega
      have i3 : (x1 : Int) < (xn : Int) := by omega
      have i4 : (0 : Int) ≤ (y1 : Int) := by omega
      have i5 : (y1 : Int) < (yn : Int) := by omega
      have hxn0 : 1 ≤ xn := by omega
      have hyn0 : 1 ≤ yn := by omega
      have hxn9 : xn ≤ 1260 := by omega
      have hyn9 : yn ≤ 1260 := by omega
      clear hxy hz kx ky hxn hyn hx1' hy1' hcx hcy hx1 hx2 hy1 hy2 hX9 hY9 HXY HX5 HY5 e1 e2
      have HYN := Lib.hid hyn0
      have q0 : decide ((0 : Int) < ((j : Int) * 8 + 7) / 8 + 1) = true := decide_eq_true (by omega)
      have q1 : (0 : Int) < ((j : Int) * 8 + 7) / 8 + 1 := by omega
      have q2 : decide ((0 : Int) < (xn : Int)) = true := decide_eq_true (by omega)
      have q3 : decide (0 < xn) = true := decide_eq_true (by omega)
      have q4 : 0 < xn := by omega
      have q5 : decide ((0 : Int) < (yn : Int)) = true := decide_eq_true (by omega)
      have q6 : decide (0 < yn) = true := decide_eq_true (by omega)
      have q7 : 0 < yn := by omega
      go_wp2_with fail
      all_goals
        go_loopw [17] (fun iv wr => ∃ i : Nat, i ≤ j ∧ iv = .int .i64 i ∧ Later w5 wr) (fun iv _ => j - (intOf iv).toNat)
        case atStart => exact ⟨0, Nat.zero_le _, rfl, Later.refl _⟩
        case round =>
          obtain ⟨i, hi, rfl, lat⟩ := hrel
          by_cases hij : i < j
          · have hu := pv_len 0 bs
            have hv := pv_len d bs
            have hib : i < bs.length := by have := HN.out; omega
            obtain ⟨ub, uo, rfl, f0, c1, f2⟩ := (HU5.out.later lat).val3 i (by rw [hu]; exact hib)
            obtain ⟨vb, vo, rfl, g0, k1, g2⟩ := (HV5.out.later lat).val3 i (by rw [hv]; exact hib)
            have e1 : (pv 0 bs)[i].2.1 = ((bs[i] : Nat) : Int) := by unfold pv; simp
            have e2 : (pv d bs)[i].2.1 = ((bs[i] : Nat) : Int) + d := by unfold pv; simp
            rw [e1] at c1
            rw [e2] at k1
            have hx256 := H256.out _ (List.getElem_mem hib)
            generalize bs[i] = x at c1 k1 hx256
            obtain ⟨y, hy⟩ : ∃ y, y = (x : Int) + d := ⟨_, rfl⟩
            rw [← hy] at k1
            have hsub : IntKind.i64.wrap (y - (x : Int)) = d := by rw [hy]; have := HD.out; exact (by rw [show (x : Int) + d - (x : Int) = d by omega]; exact hdw)
            have LAT := Lib.hid lat
            have j0 : (0 : Int) ≤ (i : Int) := by omega
            have j1 : (i : Int) < (j : Int) := by omega
            have hdd : (d != d) = false := by simp
            clear lat hy hx256 e1 e2 f0 f2 g0 g2 hu hv hib
            go_wp2_with fail
            go_quiet (fail)
            go_wp2_with fail
            go_roundw
            case rel => exact ⟨i + 1, hij, by go_num, LAT.out.drewN _⟩
            case measure => simp [intOf]; omega
          · obtain rfl : i = j := by omega
            have LZ := Lib.hid (HL5.out.trans lat)
            have cx := (HCX.out.later lat).out
            have cy := (HCY.out.later lat).out
            clear lat hi hij
            go_wp2_with fail
            go_quiet (fail)
            go_wp2_with fail
            go_ret
            exact ⟨rfl, LZ.out.drewN _⟩
end Go.Proofs.YtdhaagooiioglaaDoor
