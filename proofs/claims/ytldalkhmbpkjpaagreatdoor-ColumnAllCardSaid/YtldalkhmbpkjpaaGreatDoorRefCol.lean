/- Walks of the reference: Used, PutColumn. -/
import Derived.Test.YtldalkhmbpkjpaaGreatDoorColD
import Derived.Test.YtldalkhmbpkjpaaGreatDoorRefNullsT
import Derived.Test.YtldalkhmbpkjpaaGreatDoorRefPlF
import Derived.Test.YtldalkhmbpkjpaaGreatDoorRefRlF
import Derived.Test.YtldalkhmbpkjpaaGreatDoorRefDtE
import Derived.Test.YtldalkhmbpkjpaaGreatDoorRefPkD
import Derived.Maps.AppendAt
namespace Go.Proofs.YtldalkhmbpkjpaaGreatDoor
open Go.RowKit
set_option linter.unusedVariables false

/-- append to one row, another beside it, of another type. -/
theorem wpList_append_other {P : Program} (w : World) {ops : Array Oper} {rest : List Oper} {o : Oper} {a : Act} {Q : Exit → Act → World → Prop} (hgd : o.guard = none) (s x : Operand) (t : TypeId)
    (ho : o.op = .call { callee := .builtin .append, args := #[s, x], argTypes := #[t, t] })
    (base : Nat) (e : TypeId) (z : Value) (size bytes : Nat) (ht : P.underlying t = some (.slice e)) (hinfo : (P.info? e).map (fun i => (i.zero, i.size, i.bytes)) = some (some z, size, bytes)) (hzs : z.cells.size = size) (hsz0 : 0 < size)
    (v : Value) (n : Nat) (xs : List Value) (hs : a.eval s = v) (hown : w.ownsRow base e size v n xs)
    (b off m c : Nat) (news : List Value) (hx : a.eval x = .slice (some ⟨b, off, none⟩) m c) (hr : Has w (some ⟨b, off, none⟩) news) (hm : news.length = m * size) (h1 : ∀ u ∈ news, u.oneCell' = true)
    (h63 : n + m ≤ maxLen) (hbytes : (n + m) * bytes ≤ 140737488355328) (hbase : base ≤ w.heap.size)
    (base2 : Nat) (e2 : TypeId) (size2 : Nat) (v2 : Value) (n2 : Nat) (xs2 : List Value) (hown2 : w.ownsRow base2 e2 size2 v2 n2 xs2) (hne : ∀ g, v2.ownBlock = some g → v.ownBlock ≠ some g)
    (h : ∀ A' c' w', w'.ownsRow base e size (.slice A' (n + m) c') (n + m) (xs ++ news) → Below base w w' → w'.ownsRow base2 e2 size2 v2 n2 xs2 → (∀ g, v2.ownBlock = some g → (Value.slice A' (n + m) c').ownBlock ≠ some g) → wpList P ops Q rest (a.put o.dst (.slice A' (n + m) c')) w') : wpList P ops Q (o :: rest) a w := by
  obtain ⟨i, hi, hz, hsz, hby⟩ := info_parts hinfo
  have hcells : ∀ j u, news[j]? = some u → w.cell? ((⟨b, off, none⟩ : Addr).add j) = some u := by
    intro j u hu
    rcases hr with h | ⟨b', off', h, _, hc⟩
    · subst h; simp at hu
    · injection h with h
      injection h with h1 h2
      subst h1 h2
      rw [add_plain]
      exact hc j u hu
  refine wpList_append_own_at w hgd s x t ho base e i z size bytes ht hi hz hsz hby hzs hsz0 v n xs hs hown ⟨b, off, none⟩ m c news hx hm hcells h1 h63 hbytes hbase fun v' w' h2 h3 _ hat => ?_
  obtain ⟨A', c', hv, hc'⟩ := ownG_shape h2
  subst hv
  refine h A' c' w' h2 ((Below.refl _ _).grown h3 hbase fun k hk => (hown.lt k hk).1) ?_ fun g hg => ?_
  · have hlt := hown2.lt
    obtain ⟨p1, p2⟩ := hown2
    refine ⟨p1, ?_⟩
    rcases p2 with p2 | ⟨g, cap, cur, ha, hb, hg, hrest⟩
    · exact .inl p2
    · have e2 : v2.ownBlock = some g := by rw [ha]; rfl
      exact .inr ⟨g, cap, cur, ha, hb, (h3.block g (hlt g e2).2 (fun e => hne g e2 e.symm)).trans hg, hrest⟩
  · rcases hat with e | e
    · rw [e]; exact hne g hg
    · rw [e]; intro e2; injection e2 with e2
      have := (hown2.lt g hg).2
      omega

set_option maxRecDepth 100000 in
theorem refUsed_any (enc t : Int) (w : World) : Calls Tryz.prog 6 #[.int .i64 enc, .int .i64 t] w fun e w' => e = .returned (.tuple #[.int .i64 ((usedC enc t).getD 0), .bool (usedC enc t).isSome]) ∧ Later w w' := by
  have HT := Lib.hid (isType_any t w)
  by_cases ht : 1 ≤ t ∧ t ≤ 4
  · by_cases he : 1 ≤ enc ∧ enc ≤ 5
    · have he5 : enc = 1 ∨ enc = 2 ∨ enc = 3 ∨ enc = 4 ∨ enc = 5 := by omega
      have ht4 : t = 1 ∨ t = 2 ∨ t = 3 ∨ t = 4 := by omega
      clear ht he
      rcases he5 with rfl | rfl | rfl | rfl | rfl
      all_goals rcases ht4 with rfl | rfl | rfl | rfl
      all_goals go_enter Tryz.func6, Tryz.ntmps6
      all_goals go_wp2_with (go_at_call 16; refine HT.out.mono ?_; intro e w' h; obtain ⟨rfl, l⟩ := TellsP.yes (by omega) (SaysP.tells h); have L := Lib.hid l; clear h l)
      all_goals go_ret2
      all_goals exact ⟨rfl, L.out⟩
    · have HN := Lib.hid (show usedC enc t = none by unfold usedC; rw [if_neg (by omega)])
      have HH := Lib.hid ht
      by_cases h1 : enc < 1
      · clear he ht
        go_enter Tryz.func6, Tryz.ntmps6
        go_wp2_with (go_at_call 16; refine HT.out.mono ?_; intro e w' h; obtain ⟨rfl, l⟩ := TellsP.yes HH.out (SaysP.tells h); have L := Lib.hid l; clear h l)
        go_ret2
        rw [HN.out]
        exact ⟨rfl, L.out⟩
      · have h5 : 5 < enc := by omega
        clear he ht
        go_enter Tryz.func6, Tryz.ntmps6
        go_wp2_with (go_at_call 16; refine HT.out.mono ?_; intro e w' h; obtain ⟨rfl, l⟩ := TellsP.yes HH.out (SaysP.tells h); have L := Lib.hid l; clear h l)
        go_ret2
        rw [HN.out]
        exact ⟨rfl, L.out⟩
  · have HN := Lib.hid (show usedC enc t = none by unfold usedC; rw [if_neg (by omega)])
    have HH := Lib.hid ht
    clear ht
    go_enter Tryz.func6, Tryz.ntmps6
    go_wp2_with (go_at_call 16; refine HT.out.mono ?_; intro e w' h; obtain ⟨rfl, l⟩ := TellsP.no HH.out (SaysP.tells h); have L := Lib.hid l; clear h l)
    go_ret2
    rw [HN.out]
    exact ⟨rfl, L.out⟩
theorem refUsed_yes (enc t u : Int) (w : World) (h : usedC enc t = some u) : Calls Tryz.prog 6 #[.int .i64 enc, .int .i64 t] w fun e w' => e = .returned (.tuple #[.int .i64 u, .bool true]) ∧ Later w w' := by
  have hh := refUsed_any enc t w
  rw [h] at hh
  exact hh
theorem refUsed_no (enc t : Int) (w : World) (h : usedC enc t = none) : Calls Tryz.prog 6 #[.int .i64 enc, .int .i64 t] w fun e w' => e = .returned (.tuple #[.int .i64 0, .bool false]) ∧ Later w w' := by
  have hh := refUsed_any enc t w
  rw [h] at hh
  exact hh
theorem refEncode_any (u t : Int) (A : Option Addr) (n c : Nat) (l : List Val3) (w : World) (hn : n = l.length) (hu : 1 ≤ u ∧ u ≤ 5) (hl : l.length ≤ 1000) (hr : Has w A (fl l)) (h64 : All64 l) :
    Calls Tryz.prog 21 #[.int .i64 u, .int .i64 t, .slice A n c] w (PutsB (putE u t l) w) := by
  subst hn
  have hu5 : u = 1 ∨ u = 2 ∨ u = 3 ∨ u = 4 ∨ u = 5 := by omega
  rcases hu5 with rfl | rfl | rfl | rfl | rfl
  · exact refEncP_any t A c l w (by omega) hr h64
  · exact refEncL_any t A c l w (by omega) hr h64
  · exact refEncT_any t A c l w (by omega) hr h64
  · exact refEncK_any t A c l w (by omega) hr h64
  · exact refEncD_any t A c l w (by omega) hr h64

/-- Where PutColumn's loop stands. -/
def PcInv (t : Int) (l : List Val3) (g n : Nat) (bs : Array Value) (w : World) (nv sv iv : Value) (wr : World) : Prop :=
  ∃ (A S : Option Addr) (ca ns cs k : Nat), nv = .slice A k ca ∧ sv = .slice S ns cs ∧ iv = .int .i64 (k : Int) ∧ k ≤ n ∧ ns = (someL (l.take k)).length ∧ FitL t (l.take k) ∧ Blk wr g bs 5 ∧ wr.ownsRow (g + 1) 4 1 (.slice A k ca) k (bools ((noneL l).take k)) ∧ wr.ownsRow (g + 1) 26 3 (.slice S ns cs) ns (fl (someL (l.take k))) ∧ (∀ q, (Value.slice S ns cs).ownBlock = some q → (Value.slice A k ca).ownBlock ≠ some q) ∧ Later w wr
theorem PcInv.mk {t : Int} {l : List Val3} {g n : Nat} {bs : Array Value} {w wr : World} (A S : Option Addr) (ka ca ns cs k : Nat) (z : Int) (hka : ka = k) (hz : z = (k : Int)) (h1 : k ≤ n) (h2 : ns = (someL (l.take k)).length) (h3 : FitL t (l.take k)) (h4 : Blk wr g bs 5) (h5 : wr.ownsRow (g + 1) 4 1 (.slice A ka ca) ka (bools ((noneL l).take k))) (h6 : wr.ownsRow (g + 1) 26 3 (.slice S ns cs) ns (fl (someL (l.take k)))) (h7 : ∀ q, (Value.slice S ns cs).ownBlock = some q → (Value.slice A ka ca).ownBlock ≠ some q) (h8 : Later w wr) : PcInv t l g n bs w (.slice A ka ca) (.slice S ns cs) (.int .i64 z) wr := by
  subst hka hz; exact ⟨A, S, ca, ns, cs, ka, rfl, rfl, rfl, h1, h2, h3, h4, h5, h6, h7, h8⟩
theorem bools_one (L : List Bool) : ∀ u ∈ bools L, u.oneCell' = true := by
  intro u hu
  unfold bools at hu
  obtain ⟨b, _, rfl⟩ := List.mem_map.1 hu
  rfl
theorem bools_take_succ {L : List Bool} {k : Nat} (hk : k < L.length) : bools (L.take (k + 1)) = bools (L.take k) ++ bools [L[k]] := by
  unfold bools
  rw [List.take_succ_eq_append_getElem hk, List.map_append]

theorem own_down {w : World} {base base2 : Nat} {e : TypeId} {size n : Nat} {v : Value} {xs : List Value} (hb : base2 ≤ base) (h : w.ownsRow base e size v n xs) : w.ownsRow base2 e size v n xs := by
  obtain ⟨h1, h2⟩ := h
  refine ⟨h1, ?_⟩
  rcases h2 with h2 | ⟨g, cap, cur, ha, hb', hr⟩
  · exact .inl h2
  · exact .inr ⟨g, cap, cur, ha, Nat.le_trans hb hb', hr⟩
/-- A face that tells a row of the call's own, or a no. -/
def PutsO (o : Option (List Nat)) (w : World) (e : Ending) (w' : World) : Prop :=
  ((o = none ∧ e = .returned (.tuple #[.slice none 0 0, .bool false])) ∨
    ∃ l A c, o = some l ∧ e = .returned (.tuple #[.slice A l.length c, .bool true]) ∧ w'.ownsRow w.heap.size 5 1 (.slice A l.length c) l.length (ints .u8 l) ∧ (A = none → c = 0)) ∧ Later w w'
theorem PutsO.puts {o : Option (List Nat)} {w w' : World} {e : Ending} (h : PutsO o w e w') : PutsB o w e w' := by
  obtain ⟨h | ⟨l, A, c, h1, h2, h3, h4⟩, L⟩ := h
  · exact ⟨.inl h, L⟩
  · exact ⟨.inr ⟨l, A, c, h1, h2, Has.own h3, own_cap h3, own_capmax h3, h4⟩, L⟩
theorem PutsO.yes {o : Option (List Nat)} {w w' : World} {e : Ending} {l : List Nat} (h : PutsO o w e w') (hs : o = some l) : ∃ A c, e = .returned (.tuple #[.slice A l.length c, .bool true]) ∧ w'.ownsRow w.heap.size 5 1 (.slice A l.length c) l.length (ints .u8 l) ∧ (A = none → c = 0) ∧ Later w w' := by
  obtain ⟨⟨h, _⟩ | ⟨l', A, c, h, h1, h2, h3⟩, L⟩ := h
  · rw [hs] at h; cases h
  · rw [hs] at h; cases h; exact ⟨A, c, h1, h2, h3, L⟩

set_option maxRecDepth 100000 in
set_option maxHeartbeats 4000000 in
theorem refPutColumn_o (enc t : Int) (A : Option Addr) (n c : Nat) (l : List Val3) (w : World) (hn : n = l.length) (hl : l.length ≤ 1000) (hr : Has w A (fl l)) (h64 : All64 l) :
    Calls Tryz.prog 8 #[.int .i64 enc, .int .i64 t, .slice A n c] w (PutsO (putC enc t l) w) := by
  have HR := Lib.hid hr
  have HN := Lib.hid hn
  have H64 := Lib.hid h64
  have HL9 := Lib.hid hl
  have hn9 : n ≤ 1000 := by omega
  cases hu : usedC enc t with
  | none =>
    have HO := Lib.hid (putC_not (l := l) hu)
    have HU := Lib.hid (refUsed_no enc t w hu)
    clear hu hr h64 hn hl
    go_enter Tryz.func8, Tryz.ntmps8
    go_wp2_with fail
    refine HU.out.mono ?_
    rintro e w1 ⟨rfl, l1⟩
    go_wp2_with fail
    go_ret2
    exact ⟨.inl ⟨HO.out, rfl⟩, l1⟩
  | some u =>
    have hsv := usedC_serves hu
    have hu5 : 1 ≤ u ∧ u ≤ 5 := ⟨hsv.2.1, hsv.2.2.1⟩
    have HUU := Lib.hid hu
    have HU := Lib.hid (refUsed_yes enc t u w hu)
    have huw : IntKind.u8.wrap u = ((u.toNat : Nat) : Int) := by rw [IntKind.wrap_u8]; omega
    obtain ⟨un, hun⟩ : ∃ un : Nat, un = u.toNat := ⟨_, rfl⟩
    rw [← hun] at huw
    have HUN := Lib.hid hun
    have HU5 := Lib.hid hu5
    clear hu hsv hr h64 hn hl hun hu5
    go_enter Tryz.func8, Tryz.ntmps8
    go_wp2_with fail
    refine HU.out.mono ?_
    rintro e w1 ⟨rfl, l1⟩
    obtain ⟨g, hg⟩ : ∃ g, g = w1.heap.size := ⟨_, rfl⟩
    have HG := Lib.hid hg
    have HLW := Lib.hid l1
    have HGW := Lib.hid (show w.heap.size ≤ g by rw [hg]; exact l1.size)
    have HB0 := Lib.hid (Blk.new w1 #[.int .u8 (un : Int), .int .u8 0] 5 g hg)
    have HL0 := Lib.hid (l1.alloc (.cells #[.int .u8 (un : Int), .int .u8 0] 5))
    clear l1 HU
    go_wp2_with fail
    rw [← hg]
    clear hg
    go_loopw [11, 12, 13] (fun nv sv iv wr => PcInv t l g n #[.int .u8 (un : Int), .int .u8 0] w nv sv iv wr) (fun _ _ iv _ => n - (intOf iv).toNat)
    case atStart => exact PcInv.mk none none 0 0 0 0 0 0 rfl rfl (Nat.zero_le _) rfl (fun x hx => by cases hx) HB0.out (ownG_nil _ _ _ _) (ownG_nil _ _ _ _) (fun q h => by cases h) HL0.out
    case round =>
      obtain ⟨NA, S, ca, ns, cs, k, rfl, rfl, rfl, hk, hns, hfit, hblk, ho1, ho2, hne, lat⟩ := hrel
      have HFIT := Lib.hid hfit
      have HBLK := Lib.hid hblk
      have HO1 := Lib.hid ho1
      have HO2 := Lib.hid ho2
      have HNE := Lib.hid hne
      have HLAT := Lib.hid lat
      have HNS := Lib.hid hns
      clear hfit hblk ho1 ho2 hne lat hns HB0 HL0
      by_cases hlt : k < n
      · have hkl : k < l.length := by have := HN.out; omega
        obtain ⟨b, off, hadr, c0, c1, c2⟩ := HR.out.val3 k hkl
        subst hadr
        obtain ⟨v, hv⟩ : ∃ v, v = l[k] := ⟨_, rfl⟩
        rw [← hv] at c0 c1 c2
        have HTK := Lib.hid (show l.take (k + 1) = l.take k ++ [v] by rw [List.take_succ_eq_append_getElem hkl, hv])
        have HNK := Lib.hid (show bools ((noneL l).take (k + 1)) = bools ((noneL l).take k) ++ bools [v.1 == 0] by
          rw [bools_take_succ (by rw [noneL_len]; exact hkl)]
          congr 3
          unfold noneL
          rw [List.getElem_map, hv])
        have HMEM := Lib.hid (show v ∈ l by rw [hv]; exact List.getElem_mem hkl)
        obtain ⟨vt, vi, vs⟩ := v
        dsimp only at c0 c1 c2
        have HF := Lib.hid (refFits_any t vt vi vs wr)
        have HC0 := Lib.hid (show CellIs w ⟨b, off + k * 3, none⟩ (.int .i64 vt) from c0)
        have HC1 := Lib.hid (show CellIs w ⟨b, off + k * 3 + 1, none⟩ (.int .i64 vi) from c1)
        have HC2 := Lib.hid (show CellIs w ⟨b, off + k * 3 + 2, none⟩ (.string vs) from c2)
        have d0 := (HC0.out.later HLAT.out).out
        have d1 := (HC1.out.later HLAT.out).out
        have d2 := (HC2.out.later HLAT.out).out
        clear c0 c1 c2
        have HKL := Lib.hid hkl
        have hk9 : k < 1000 := by omega
        have hns9 : ns ≤ 1000 := by
          have h1 := HNS.out
          have h2 := someL_len (l.take k)
          rw [List.length_take] at h2
          omega
        clear hv hk hkl
        go_wp2_with fail
        refine HF.out.mono ?_
        intro e w5 h
        by_cases hfv : FitsV t vt vi vs.size
        · obtain ⟨rfl, l5⟩ := TellsP.yes hfv (SaysP.tells h)
          have HFN := Lib.hid (show FitL t (l.take (k + 1)) by
            rw [HTK.out]
            intro x hx
            rcases List.mem_append.1 hx with hx | hx
            · exact HFIT.out x hx
            · rw [List.mem_singleton] at hx; rw [hx]; exact hfv)
          have HSN := Lib.hid (show someL (l.take (k + 1)) = someL (l.take k) ++ (if vt = 0 then [] else [(vt, vi, vs)]) by rw [HTK.out, someL_snoc])
          have HBG := Lib.hid (HBLK.out.later l5)
          have HP1 := Lib.hid (own_later HO1.out l5)
          have HP2 := Lib.hid (own_later HO2.out l5)
          have HL5 := Lib.hid (HLAT.out.trans l5)
          have e0 := (HC0.out.later HL5.out).out
          clear h l5 hfv d0 d1 d2 HO1 HO2 HBLK HF HLAT
          by_cases h0 : vt = 0
          · subst h0
            have HSE := Lib.hid (show someL (l.take (k + 1)) = someL (l.take k) by rw [HSN.out, if_pos rfl, List.append_nil])
            have HNK2 := Lib.hid (show bools ((noneL l).take (k + 1)) = bools ((noneL l).take k) ++ bools [true] from HNK.out)
            have HAS := Lib.hid ((Blk.new w5 (bools [true]).toArray 4 w5.heap.size rfl).hasB)
            have LT := Lib.hid (HL5.out.alloc (.cells (bools [true]).toArray 4))
            have HQ1 := Lib.hid (HP1.out.alloc (.cells (bools [true]).toArray 4))
            have HQ2 := Lib.hid (HP2.out.alloc (.cells (bools [true]).toArray 4))
            have HBG2 := Lib.hid (HBG.out.later (Later.new _ (.cells (bools [true]).toArray 4)))
            have HGS := Lib.hid (show g + 1 ≤ (w5.alloc (.cells (bools [true]).toArray 4)).heap.size by have := HBG2.out.lt; omega)
            clear HP1 HP2 HBG HL5 HSN HNK
            go_wp2_with (at_builtin; refine wpList_append_other _ rfl (.tmp 39) (.tmp 46) 46 rfl (g + 1) 4 (.bool false) 1 1 Tryz.underlying46 info_bool rfl (by decide) _ k (bools ((noneL l).take k)) rfl HQ1.out _ _ 1 1 (bools [true]) rfl HAS.out (by rfl) (bools_one _) (by unfold maxLen; omega) (by omega) HGS.out (g + 1) 26 3 _ ns (fl (someL (l.take k))) HQ2.out HNE.out ?_; intro A2 c2 w6 o2 b2 p2 n2; have HR1 := Lib.hid o2; have HR2 := Lib.hid p2; have HN2 := Lib.hid n2; have HBB := Lib.hid b2; have HL6 := Lib.hid (Later.of (LT.out.below.trans (Below.mono b2 (Nat.le_trans HGW.out (Nat.le_succ _))))); have e6 := (HC0.out.later HL6.out).out; clear o2 b2 p2 n2)
            go_roundw
            case rel => exact PcInv.mk A2 S _ c2 ns cs (k + 1) _ rfl (by omega) hlt (by rw [HSE.out]; exact HNS.out) HFN.out ((Below.block HBB.out g (Nat.lt_succ_self g)).trans HBG2.out) (by rw [HNK2.out]; exact HR1.out) (by rw [HSE.out]; exact HR2.out) HN2.out HL6.out
            case measure => simp [intOf]; omega
          · have HNK2 := Lib.hid (show bools ((noneL l).take (k + 1)) = bools ((noneL l).take k) ++ bools [false] by
              have h := HNK.out
              rw [show (vt == 0) = false by simp [h0]] at h
              exact h)
            have q0 : (vt == 0) = false := by simp [h0]
            have HSE := Lib.hid (show someL (l.take (k + 1)) = someL (l.take k) ++ [(vt, vi, vs)] by rw [HSN.out, if_neg h0])
            have HH0 := Lib.hid h0
            clear h0
            have HAS := Lib.hid ((Blk.new w5 (bools [false]).toArray 4 w5.heap.size rfl).hasB)
            have LT := Lib.hid (HL5.out.alloc (.cells (bools [false]).toArray 4))
            have HQ1 := Lib.hid (HP1.out.alloc (.cells (bools [false]).toArray 4))
            have HQ2 := Lib.hid (HP2.out.alloc (.cells (bools [false]).toArray 4))
            have HBG2 := Lib.hid (HBG.out.later (Later.new _ (.cells (bools [false]).toArray 4)))
            have HGS := Lib.hid (show g + 1 ≤ (w5.alloc (.cells (bools [false]).toArray 4)).heap.size by have := HBG2.out.lt; omega)
            clear HP1 HP2 HBG HL5 HSN HNK
            go_wp2_with (first
              | (at_builtin; refine wpList_append_other _ rfl (.tmp 39) (.tmp 46) 46 rfl (g + 1) 4 (.bool false) 1 1 Tryz.underlying46 info_bool rfl (by decide) _ k (bools ((noneL l).take k)) rfl HQ1.out _ _ 1 1 (bools [false]) rfl HAS.out (by rfl) (bools_one _) (by unfold maxLen; omega) (by omega) HGS.out (g + 1) 26 3 _ ns (fl (someL (l.take k))) HQ2.out HNE.out ?_; intro A2 c2 w6 o2 b2 p2 n2; have HR1 := Lib.hid o2; have HR2 := Lib.hid p2; have HN2 := Lib.hid n2; have HBB := Lib.hid b2; have HL6 := Lib.hid (Later.of (LT.out.below.trans (Below.mono b2 (Nat.le_trans HGW.out (Nat.le_succ _))))); have e6 := (HC0.out.later HL6.out).out; have e61 := (HC1.out.later HL6.out).out; have e62 := (HC2.out.later HL6.out).out; have HAS6 := Lib.hid ((Blk.new w6 (fl [(vt, vi, vs)]).toArray 26 _ rfl).has); have BG6 := Lib.hid ((Below.block HBB.out g (Nat.lt_succ_self g)).trans HBG2.out); have HGS6 := Lib.hid (show g + 1 ≤ (w6.alloc (.cells (fl [(vt, vi, vs)]).toArray 26)).heap.size by have h := Blk.lt BG6.out; simp; omega); clear o2 b2 p2 n2)
              | (at_builtin; refine wpList_append_other _ rfl (.tmp 54) (.tmp 59) 23 rfl (g + 1) 26 (vagg 0 0 ⟨#[]⟩) 3 32 Tryz.underlying23 info_v rfl (by decide) _ ns (fl (someL (l.take k))) rfl (HR2.out.alloc _) _ _ 1 1 (fl [(vt, vi, vs)]) rfl HAS6.out (by rfl) (fl_one _) (by unfold maxLen; omega) (by omega) HGS6.out (g + 1) 4 1 _ (k + 1) (bools ((noneL l).take k) ++ bools [false]) (HR1.out.alloc _) (fun q hq e => HN2.out q e hq) ?_; intro A3 c3 w7 o3 b3 p3 n3; have HS3 := Lib.hid o3; have HS1 := Lib.hid p3; have HN3 := Lib.hid n3; have HBC := Lib.hid b3; have HL7 := Lib.hid (Later.of ((HL6.out.alloc (.cells (fl [(vt, vi, vs)]).toArray 26)).below.trans (Below.mono b3 (Nat.le_trans HGW.out (Nat.le_succ _))))); clear o3 b3 p3 n3))
            go_roundw
            case rel => exact PcInv.mk A2 A3 _ c2 _ c3 (k + 1) _ rfl (by omega) hlt (by rw [HSE.out, List.length_append, HNS.out]; rfl) HFN.out ((Below.block HBC.out g (Nat.lt_succ_self g)).trans ((Blk.later BG6.out (Later.new _ _)))) (by rw [HNK2.out]; exact HS1.out) (by rw [HSE.out, fl_append]; exact HS3.out) (fun q hq e => HN3.out q e hq) HL7.out
            case measure => simp [intOf]; omega
        · obtain ⟨rfl, l5⟩ := TellsP.no hfv (SaysP.tells h)
          have HNF := Lib.hid (show ¬ FitL t l from fun hf => hfv (hf _ HMEM.out))
          have L5 := Lib.hid (HLAT.out.trans l5)
          have HO := Lib.hid (putC_no (enc := enc) HNF.out)
          clear h l5 hfv
          go_wp2_with fail
          go_ret2
          exact ⟨.inl ⟨HO.out, rfl⟩, L5.out⟩
      · have hkn : k = n := by omega
        subst hkn
        have HTK := Lib.hid (show l.take k = l by rw [HN.out]; exact List.take_of_length_le (Nat.le_refl _))
        have HTB := Lib.hid (show (noneL l).take k = noneL l by rw [HN.out, ← noneL_len l]; exact List.take_of_length_le (Nat.le_refl _))
        have hfit := HFIT.out
        have ho1 := HO1.out
        have ho2 := HO2.out
        have hns := HNS.out
        rw [HTK.out] at hfit ho2 hns
        rw [HTB.out] at ho1
        obtain ⟨pc, hpc, hput⟩ := putC_some HUU.out hfit
        have HPUT := Lib.hid hput
        have HPC := Lib.hid hpc
        have hns9 : ns ≤ 1000 := by have := someL_len l; have := HL9.out; omega
        have hlw := putE_le (by have := someL_len l; have := HL9.out; omega) (someL_64 H64.out) hpc
        have HLE := Lib.hid (show pc.length ≤ 31010 by have := someL_len l; have := HL9.out; omega)
        have HENC := Lib.hid (fun w' (h : Has w' S (fl (someL l))) => refEncode_any u t S ns cs (someL l) w' hns HU5.out (by have := someL_len l; have := HL9.out; omega) h (someL_64 H64.out))
        have HNS2 := Lib.hid hns
        have HZ1 := Lib.hid ho1
        have HZ2 := Lib.hid ho2
        clear hfit ho1 ho2 hpc hput hlw hns HO1 HO2 HFIT HNS
        by_cases hlt2 : ns < k
        · obtain ⟨w2, hw2⟩ : ∃ w2, w2 = wr.setCell ⟨g, 1, none⟩ (.int .u8 1) := ⟨_, rfl⟩
          have HW2 := Lib.hid hw2
          have BG2 := Lib.hid (show Blk w2 g (ints .u8 [un, 1]).toArray 5 by rw [hw2]; exact HBLK.out.set_ 1 (.int .u8 1))
          have NZ1 := Lib.hid (show w2.ownsRow (g + 1) 4 1 (.slice NA k ca) k (bools (noneL l)) by rw [hw2]; exact ownsRow_setCell_below HZ1.out (a := ⟨g, 1, none⟩) (Nat.lt_succ_self g) _)
          have NZ2 := Lib.hid (show w2.ownsRow (g + 1) 26 3 (.slice S ns cs) ns (fl (someL l)) by rw [hw2]; exact ownsRow_setCell_below HZ2.out (a := ⟨g, 1, none⟩) (Nat.lt_succ_self g) _)
          have L2 := Lib.hid (show Later w w2 by rw [hw2]; exact HLAT.out.set_ (p := ⟨g, 1, none⟩) HGW.out _)
          obtain ⟨m, hm⟩ : ∃ m, m = (k + 7) / 8 := ⟨_, rfl⟩
          have HNP := Lib.hid (refPutNulls_any NA k ca (noneL l) w2 (by rw [noneL_len]; exact HN.out) (Has.ownG NZ1.out) (by rw [noneL_len]; exact HL9.out))
          rw [noneL_len, ← HN.out, ← hm] at HNP
          have HMP := Lib.hid (show (packN (noneL l)).length = m by rw [packN_length, noneL_len, ← HN.out, hm])
          have hm9 : m ≤ 126 := by omega
          have HHEAD := Lib.hid (show headC u l = [un, 1] ++ packN (noneL l) by
            unfold headC
            rw [if_pos (by rw [← HNS2.out, ← HN.out]; exact hlt2), HUN.out]; rfl)
          have s1 := HBLK.out.cell 1 _ rfl
          have f1 := HBLK.out.frozen 1
          have hnsn : (ns : Int) < (k : Int) := by omega
          clear hw2 hm
          go_wp2_with fail
          rw [← HW2.out]
          refine HNP.out.mono ?_
          rintro e w3 ⟨g3, rfl, r3, l3⟩
          have HR3 := Lib.hid (Has.row r3)
          have BG3 := BG2.out.later l3
          have O3 := Lib.hid (BG3.ownG (base := g) (size := 1) (n := 2) (Nat.le_refl _) rfl (by unfold maxLen; omega))
          have SZ3 := Lib.hid (own_later NZ2.out l3)
          have L3 := Lib.hid (L2.out.trans l3)
          have HGZ := Lib.hid (show g ≤ w3.heap.size from Nat.le_of_lt BG3.lt)
          have HNE3 := Lib.hid (show ∀ q, (Value.slice S ns cs).ownBlock = some q → (Value.slice (some ⟨g, 0, none⟩) 2 2).ownBlock ≠ some q from fun q hq e => by
            have h1 := (SZ3.out.lt q hq).1
            have h2 : g = q := by injection e
            omega)
          clear r3 l3 s1 f1 HNP BG3
          go_wp2_with (at_builtin; refine wpList_append_other _ rfl (.tmp 68) (.tmp 70) 22 rfl g 5 (.int .u8 0) 1 1 Tryz.underlying22 info_u8 rfl (by decide) _ 2 (ints .u8 [un, 1]) rfl O3.out _ _ m m (ints .u8 (packN (noneL l))) rfl HR3.out (by rw [ints_length, HMP.out, Nat.mul_one]) (ints_one _ _) (by unfold maxLen; omega) (by omega) HGZ.out (g + 1) 26 3 _ ns (fl (someL l)) SZ3.out HNE3.out ?_; intro A4 c4 w4 o4 b4 p4 n4; have OP := Lib.hid o4; have SZ4 := Lib.hid (Has.ownG p4); have LP := Lib.hid (Later.of (L3.out.below.trans (Below.mono b4 HGW.out))); have HG4 := Lib.hid (Nat.le_trans HGZ.out b4.size); clear o4 b4 p4 n4)
          have HCELLS := Lib.hid (show ints .u8 [un, 1] ++ ints .u8 (packN (noneL l)) ++ ints .u8 pc = ints .u8 (headC u l ++ pc) by rw [HHEAD.out]; simp [ints])
          refine (HENC.out _ SZ4.out).mono ?_
          intro e w5 h
          obtain ⟨P, cp, rfl, ph, _, _, hpn, l5⟩ := h.yes HPC.out
          have HPH := Lib.hid ph
          have HPN := Lib.hid hpn
          have O5 := Lib.hid (own_later OP.out l5)
          have L5 := Lib.hid (LP.out.trans l5)
          have HG5 := Lib.hid (Nat.le_trans HG4.out l5.size)
          clear h ph hpn l5 HENC OP LP
          go_wp2_with (at_builtin; refine wpList_append_rd _ rfl (.tmp 79) (.tmp 80) 22 rfl g 5 (.int .u8 0) 1 Tryz.underlying22 info_u8 rfl _ (2 + m) (ints .u8 [un, 1] ++ ints .u8 (packN (noneL l))) rfl O5.out _ P pc.length cp (ints .u8 pc) rfl HPH.out ?_ HPN.out (ints_one _ _) ?_ ?_ ?_ ?_; (rw [ints_length]); (have := HLE.out; unfold maxLen; omega); (have := HLE.out; omega); (exact HG5.out); intro A6 c6 w6 o6 g6 b6 n6; have O6 := Lib.hid o6; have L6 := Lib.hid (Later.of (L5.out.below.trans (Below.mono b6 HGW.out))); have N6 := Lib.hid n6; clear o6 g6 b6 n6)
          go_ret2
          have o := O6.out
          rw [HCELLS.out] at o
          have hlen : (2 + m) + pc.length = (headC u l ++ pc).length := by rw [List.length_append, HHEAD.out]; simp [HMP.out]; omega
          rw [hlen] at o
          exact ⟨.inr ⟨headC u l ++ pc, A6, c6, HPUT.out, by rw [← hlen]; rfl, own_down HGW.out o, N6.out⟩, L6.out⟩
        · have HHEAD := Lib.hid (show headC u l = [un, 0] by
            unfold headC
            rw [if_neg (by rw [← HNS2.out, ← HN.out]; exact hlt2), HUN.out])
          have OP := Lib.hid (Blk.ownG (base := g) (size := 1) (n := 2) (cs := ints .u8 [un, 0]) HBLK.out (Nat.le_refl _) rfl (by unfold maxLen; omega))
          have hnsn : ¬ (ns : Int) < (k : Int) := by omega
          have HCELLS := Lib.hid (show ints .u8 [un, 0] ++ ints .u8 pc = ints .u8 (headC u l ++ pc) by rw [HHEAD.out]; simp [ints])
          have HG4 := Lib.hid (show g ≤ wr.heap.size from Nat.le_of_lt HBLK.out.lt)
          go_wp2_with fail
          refine (HENC.out _ (Has.ownG HZ2.out)).mono ?_
          intro e w5 h
          obtain ⟨P, cp, rfl, ph, _, _, hpn, l5⟩ := h.yes HPC.out
          have HPH := Lib.hid ph
          have HPN := Lib.hid hpn
          have O5 := Lib.hid (own_later OP.out l5)
          have L5 := Lib.hid (HLAT.out.trans l5)
          have HG5 := Lib.hid (Nat.le_trans HG4.out l5.size)
          clear h ph hpn l5 HENC OP
          go_wp2_with (at_builtin; refine wpList_append_rd _ rfl (.tmp 79) (.tmp 80) 22 rfl g 5 (.int .u8 0) 1 Tryz.underlying22 info_u8 rfl _ 2 (ints .u8 [un, 0]) rfl O5.out _ P pc.length cp (ints .u8 pc) rfl HPH.out ?_ HPN.out (ints_one _ _) ?_ ?_ ?_ ?_; (rw [ints_length]); (have := HLE.out; unfold maxLen; omega); (have := HLE.out; omega); (exact HG5.out); intro A6 c6 w6 o6 g6 b6 n6; have O6 := Lib.hid o6; have L6 := Lib.hid (Later.of (L5.out.below.trans (Below.mono b6 HGW.out))); have N6 := Lib.hid n6; clear o6 g6 b6 n6)
          go_ret2
          have o := O6.out
          rw [HCELLS.out] at o
          have hlen : 2 + pc.length = (headC u l ++ pc).length := by rw [List.length_append, HHEAD.out]; simp
          rw [hlen] at o
          exact ⟨.inr ⟨headC u l ++ pc, A6, c6, HPUT.out, by rw [← hlen]; rfl, own_down HGW.out o, N6.out⟩, L6.out⟩
theorem refPutColumn_any (enc t : Int) (A : Option Addr) (n c : Nat) (l : List Val3) (w : World) (hn : n = l.length) (hl : l.length ≤ 1000) (hr : Has w A (fl l)) (h64 : All64 l) :
    Calls Tryz.prog 8 #[.int .i64 enc, .int .i64 t, .slice A n c] w (PutsB (putC enc t l) w) :=
  (refPutColumn_o enc t A n c l w hn hl hr h64).mono fun _ _ h => h.puts
end Go.Proofs.YtldalkhmbpkjpaaGreatDoor
