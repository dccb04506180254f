/- The walk of rabbetlaw24.AggOver. -/
import Derived.Test.YtfmjpjnkjbognaaDoorAggY
import Derived.Test.YtfmjpjnkjbognaaDoorSameR
import Derived.Test.YtfmjpjnkjbognaaDoorKripke
import Derived.Test.YtfmjpjnkjbognaaDoorStepN
namespace Go.Proofs.YtfmjpjnkjbognaaDoor
open Go.RowKit
set_option linter.unusedVariables false

/-- A list on its way: so many of one number more. -/
def OvI (xs0 : List Val3) (a : Int) (M : Nat) (W : World) (lv iv : Value) (wr : World) : Prop :=
  ∃ (k : Nat) (A : Option Addr) (n c : Nat), lv = .slice A n c ∧ iv = .int .i64 k ∧ k ≤ M ∧ n = xs0.length + k ∧ wr.ownsRow W.heap.size 54 3 (.slice A n c) n (fl (xs0 ++ List.replicate k (n2 a))) ∧ (A = none → c = 0) ∧ Later W wr
theorem OvI.mk {xs0 : List Val3} {a : Int} {M : Nat} {W wr : World} (y : Int) (k : Nat) (A : Option Addr) (n c : Nat) (hy : y = (k : Int)) (hk : k ≤ M) (hn : n = xs0.length + k) (ho : wr.ownsRow W.heap.size 54 3 (.slice A n c) n (fl (xs0 ++ List.replicate k (n2 a)))) (hnil : A = none → c = 0) (L : Later W wr) : OvI xs0 a M W (.slice A n c) (.int .i64 y) wr := by
  subst hy; exact ⟨k, A, n, c, rfl, rfl, hk, hn, ho, hnil, L⟩
theorem u8_rem (n : Nat) (hn : n < 256) : IntKind.u8.wrap ((n : Int).tmod 6) = ((n % 6 : Nat) : Int) ∧ (n : Int).tmod 6 = ((n % 6 : Nat) : Int) := by
  have h : (n : Int).tmod 6 = ((n % 6 : Nat) : Int) := by
    rw [Int.tmod_eq_emod_of_nonneg (by omega)]; omega
  refine ⟨?_, h⟩
  rw [h, IntKind.wrap_u8]; omega

/-- The list, turned. -/
def rotT (L : List Val3) (turn k : Nat) : List Val3 := (List.range k).map fun i => L.getD ((i + turn) % L.length) z3
theorem rotT_succ (L : List Val3) (turn k : Nat) : rotT L turn (k + 1) = rotT L turn k ++ [L.getD ((k + turn) % L.length) z3] := by
  unfold rotT
  rw [List.range_succ, List.map_append]; rfl
theorem rotT_len (L : List Val3) (turn k : Nat) : (rotT L turn k).length = k := by simp [rotT]
theorem rotT_all (L : List Val3) (turn : Nat) : rotT L turn L.length = L.drop (turn % L.length) ++ L.take (turn % L.length) := by
  rcases Nat.eq_zero_or_pos L.length with h0 | hp
  · have : L = [] := List.eq_nil_of_length_eq_zero h0
    subst this; simp [rotT]
  · have hr : turn % L.length < L.length := Nat.mod_lt _ hp
    refine List.ext_getElem (by rw [rotT_len, List.length_append, List.length_drop, List.length_take]; omega) fun i h1 h2 => ?_
    rw [rotT_len] at h1
    have e : (i + turn) % L.length = if i < L.length - turn % L.length then i + turn % L.length else i - (L.length - turn % L.length) := by
      rw [Nat.add_mod, Nat.mod_eq_of_lt h1]
      split
      · rw [Nat.mod_eq_of_lt (by omega)]
      · rw [Nat.mod_eq_sub_mod (by omega), Nat.mod_eq_of_lt (by omega)]; omega
    have hg : (rotT L turn L.length)[i]'(by rw [rotT_len]; exact h1) = L.getD ((i + turn) % L.length) z3 := by simp [rotT]
    rw [hg, e]
    by_cases hi : i < L.length - turn % L.length
    · rw [if_pos hi, List.getElem_append_left (by rw [List.length_drop]; exact hi), List.getElem_drop, List.getD_eq_getElem?_getD, List.getElem?_eq_getElem (by omega)]
      show L[i + turn % L.length] = L[turn % L.length + i]
      congr 1; omega
    · rw [if_neg hi, List.getElem_append_right (by rw [List.length_drop]; omega), List.getElem_take, List.getD_eq_getElem?_getD, List.getElem?_eq_getElem (by omega)]
      show L[i - (L.length - turn % L.length)] = L[i - (L.drop (turn % L.length)).length]
      congr 1; rw [List.length_drop]
/-- Where the turned list stands. -/
def OvT (L : List Val3) (turn : Nat) (W : World) (lv iv : Value) (wr : World) : Prop :=
  ∃ (k : Nat) (A : Option Addr) (c : Nat), lv = .slice A k c ∧ iv = .int .i64 k ∧ k ≤ L.length ∧ wr.ownsRow W.heap.size 54 3 (.slice A k c) k (fl (rotT L turn k)) ∧ (A = none → c = 0) ∧ Later W wr
theorem OvT.mk {L : List Val3} {turn : Nat} {W wr : World} (y : Int) (k : Nat) (A : Option Addr) (c : Nat) (hy : y = (k : Int)) (hk : k ≤ L.length) (ho : wr.ownsRow W.heap.size 54 3 (.slice A k c) k (fl (rotT L turn k))) (hnil : A = none → c = 0) (L2 : Later W wr) : OvT L turn W (.slice A k c) (.int .i64 y) wr := by
  subst hy; exact ⟨k, A, c, rfl, rfl, hk, ho, hnil, L2⟩
/-- Numbers of one kind. -/
def NumL (L : List Val3) : Prop := ∀ x ∈ L, x.1 = 2 ∧ -9223372036854775808 ≤ x.2.1 ∧ x.2.1 ≤ 9223372036854775807
theorem pick_all {L : List Val3} (h : NumL L) : pickN L (List.range L.length) = L := by
  unfold pickN
  have e : (List.range L.length).map (fun p => L.getD p z3) = L := by
    refine List.ext_getElem (by simp) fun i h1 h2 => ?_
    simp [h2]
  rw [e, List.filter_eq_self.2 fun x hx => by have := (h x hx).1; simp; omega]
theorem over_run {L : List Val3} (h : NumL L) : runE [L] [] [(2, 0)] [List.range L.length] = match sumV L with | .ok v => .ok [[v]] | .error n => .error n := by
  have e : ofA [L] (List.range L.length) 2 0 = sumV L := by
    show ofV (pickN L (List.range L.length)) 2 = _
    rw [pick_all h]; rfl
  unfold runE mapE
  simp only [List.foldl_cons, List.foldl_nil, stepE, rowE, mapE, e]
  rcases sumV L with n | v <;> rfl
theorem NumL.rot {L : List Val3} (h : NumL L) (turn : Nat) : NumL (rotT L turn L.length) := by
  rw [rotT_all]
  intro x hx
  rcases List.mem_append.1 hx with hx | hx
  · exact h x (List.mem_of_mem_drop hx)
  · exact h x (List.mem_of_mem_take hx)
theorem sumI_rot (L : List Val3) (turn : Nat) : sumI (rotT L turn L.length) = sumI L := by
  rw [rotT_all, sumI_append]
  have := sumI_append (L.take (turn % L.length)) (L.drop (turn % L.length))
  rw [List.take_append_drop] at this
  omega
theorem sumV_num {L : List Val3} (h : NumL L) : sumV L = if L = [] then .ok z3 else if -9223372036854775808 ≤ sumI L ∧ sumI L ≤ 9223372036854775807 then .ok (n2 (sumI L)) else .error 5 := by
  unfold sumV
  rw [if_pos (show ∀ x ∈ L, Num3 x from fun x hx => .inr (h x hx).1)]
theorem sumV_rot {L : List Val3} (h : NumL L) (turn : Nat) : sumV (rotT L turn L.length) = sumV L := by
  rw [sumV_num h, sumV_num (h.rot turn), sumI_rot]
  have : rotT L turn L.length = [] ↔ L = [] := by
    constructor
    · intro e
      have := congrArg List.length e
      rw [rotT_len] at this
      exact List.eq_nil_of_length_eq_zero this
    · intro e; subst e; rfl
  by_cases e : L = []
  · rw [if_pos e, if_pos (this.2 e)]
  · rw [if_neg e, if_neg (fun h => e (this.1 h))]

/-- What Run gives of one column's sum. -/
def OverP (L : List Val3) (w : World) (e : Ending) (w' : World) : Prop :=
  (∃ v A c rs, sumV L = .ok v ∧ e = .returned (.tuple #[.slice A 1 c, .int .i64 0]) ∧ rs.map (·.l) = [[v]] ∧ RowsAt w' A rs ∧ Later w w') ∨ (sumV L = .error 5 ∧ e = .returned (.tuple #[.slice none 0 0, .int .i64 5]) ∧ Later w w')
theorem over_call (A : Option Addr) (c g ga : Nat) (L : List Val3) (a0 a1 a2 : Addr) (w : World) (hs : S24 w a0 a1 a2) (hN : NumL L) (hl : L.length ≤ 20) (hg : Blk w g #[.slice A L.length c] 51) (hga : Blk w ga #[.int .i64 2, .int .i64 0] 41) (hL : Has w A (fl L)) (hc : L.length ≤ c ∧ c ≤ 9223372036854775807) (hnil : A = none → c = 0) :
    Calls Tryd.prog 10 #[.slice (some ⟨g, 0, none⟩) 1 1, .slice none 0 0, .slice (some ⟨ga, 0, none⟩) 1 1] w (OverP L w) := by
  refine (aggRun_any (some ⟨g, 0, none⟩) none (some ⟨ga, 0, none⟩) 1 1 0 0 1 1 [⟨A, c, L⟩] [] [(2, 0)] a0 a1 a2 w hs rfl (by omega) rfl (by omega) rfl (by omega)
    ⟨hg.has, fun s hs => by
      rw [List.mem_singleton] at hs
      subst hs
      exact ⟨HasX.of hL, hc.1, hc.2, hnil⟩⟩ (.inl rfl) hga.has (fun s hs => by
      rw [List.mem_singleton] at hs
      subst hs
      show L.length ≤ 1000
      omega) (show L.length ≤ 20 from hl) (fun s hs x hx => by
      rw [List.mem_singleton] at hs
      subst hs
      exact (hN x hx).2)).mono ?_
  rintro e w' (⟨hbad, _⟩ | ⟨_, R, hgo, h⟩)
  · exact absurd (show RunOk 1 [] [(2, 0)] from ⟨by decide, fun a ha => by
      rw [List.mem_singleton] at ha
      subst ha
      unfold AggOk; decide⟩) hbad
  · have hR : R = [List.range L.length] := by
      rcases hgo with ⟨_, h⟩ | ⟨h, _⟩
      · exact h
      · exact absurd rfl h
    subst hR
    have hrun : runE (colsOf [⟨A, c, L⟩]) [] [(2, 0)] [List.range L.length] = match sumV L with | .ok v => .ok [[v]] | .error n => .error n := over_run hN
    rcases h with ⟨RA, rc, rs, rfl, h1, hat, _, _, l⟩ | ⟨n, h1, hn, rfl, l⟩
    · rw [hrun] at h1
      rcases hsum : sumV L with n | v
      · rw [hsum] at h1; cases h1
      · rw [hsum] at h1
        have h2 : [[v]] = rs.map (·.l) := by injection h1
        have h3 : rs.length = 1 := by
          have := congrArg List.length h2
          rw [List.length_map] at this
          exact this.symm
        rw [h3]
        exact .inl ⟨v, RA, rc, rs, hsum, rfl, h2.symm, hat, l⟩
    · rw [hrun] at h1
      rcases hsum : sumV L with m | v
      · rw [hsum] at h1
        have h2 : m = n := by injection h1
        subst h2
        have h5 : m = 5 := by
          rw [sumV_num hN] at hsum
          split at hsum
          · cases hsum
          · split at hsum
            · cases hsum
            · injection hsum with h; exact h.symm
        subst h5
        exact .inr ⟨hsum, rfl, l⟩
      · rw [hsum] at h1; cases h1
theorem and32 (x : Int) : bits .and .i64 x 4294967295 = x % 4294967296 := by
  show IntKind.i64.wrap (((BitVec.ofInt 64 x) &&& (BitVec.ofInt 64 4294967295)).toNat : Int) = _
  have e : ((BitVec.ofInt 64 x) &&& (BitVec.ofInt 64 4294967295)).toNat = (x % 18446744073709551616).toNat % 4294967296 := by
    rw [BitVec.toNat_and, show (BitVec.ofInt 64 4294967295).toNat = 2 ^ 32 - 1 from by decide, Nat.and_two_pow_sub_one_eq_mod, BitVec.toNat_ofInt]; rfl
  rw [e, IntWalk.i64_in _ ⟨by omega, by omega⟩]; omega
/-- Where the halves stand. -/
def DaI (L : List Val3) (w : World) (hv lv iv : Value) (wr : World) : Prop :=
  ∃ (k : Nat) (h l : Int), hv = .int .i64 h ∧ lv = .int .i64 l ∧ iv = .int .i64 k ∧ k ≤ L.length ∧ sumI (L.take k) = h * 4294967296 + l ∧ 0 ≤ l ∧ l ≤ 4294967295 * (k : Int) ∧ -2147483648 * (k : Int) ≤ h ∧ h ≤ 2147483647 * (k : Int) ∧ Later w wr
theorem DaI.mk {L : List Val3} {w wr : World} (y : Int) (k : Nat) (h l : Int) (hy : y = (k : Int)) (hk : k ≤ L.length) (hs : sumI (L.take k) = h * 4294967296 + l) (h0 : 0 ≤ l) (h1 : l ≤ 4294967295 * (k : Int)) (h2 : -2147483648 * (k : Int) ≤ h) (h3 : h ≤ 2147483647 * (k : Int)) (L2 : Later w wr) : DaI L w (.int .i64 h) (.int .i64 l) (.int .i64 y) wr := by
  subst hy; exact ⟨k, h, l, rfl, rfl, rfl, hk, hs, h0, h1, h2, h3, L2⟩

set_option maxRecDepth 100000 in
set_option maxHeartbeats 8000000 in
theorem aggOver_any (a b : Int) (n m turn : Nat) (a0 a1 a2 : Addr) (w : World) (hs : S24 w a0 a1 a2) (ha : -9223372036854775808 ≤ a ∧ a ≤ 9223372036854775807) (hb : -9223372036854775808 ≤ b ∧ b ≤ 9223372036854775807) (hn : n < 256) (hm : m < 256) (ht : turn < 256) :
    Calls Tryd.prog 5 #[.int .i64 a, .int .i64 b, .int .u8 n, .int .u8 m, .int .u8 turn] w fun e w' => e = .returned (.bool true) ∧ Later w w' := by
  have HB := Lib.hid (begun24_any a0 a1 a2 w hs)
  have HS := Lib.hid hs
  obtain ⟨hn1, hn2⟩ := u8_rem n hn
  obtain ⟨hm1, hm2⟩ := u8_rem m hm
  obtain ⟨N, hN⟩ : ∃ N, n % 6 = N := ⟨_, rfl⟩
  obtain ⟨M, hM⟩ : ∃ M, m % 6 = M := ⟨_, rfl⟩
  have hN5 : N ≤ 5 := by omega
  have hM5 : M ≤ 5 := by omega
  rw [hN] at hn1 hn2
  rw [hM] at hm1 hm2
  clear hs hN hM
  go_enter Tryd.func5, Tryd.ntmps5
  go_wp2_with fail
  refine HB.out.mono ?_
  rintro e W ⟨rfl, lW⟩
  have HLW := Lib.hid lW
  have HI0 := Lib.hid (OvI.mk (xs0 := []) (a := a) (M := N) (W := W) (wr := W) 0 0 none 0 0 rfl (Nat.zero_le _) rfl (ownG_nil _ _ _ _) (fun _ => rfl) (Later.refl _))
  clear HB lW
  go_wp2_with fail
  go_loopw [11, 12] (fun lv iv wr => OvI [] a N W lv iv wr) (fun _ i _ => N - (intOf i).toNat)
  case atStart => exact HI0.out
  case round =>
    obtain ⟨k, A, nn, c, rfl, rfl, hk, hnn, hown, hnil, lat⟩ := hrel
    have HOWN := Lib.hid hown
    have HNIL := Lib.hid hnil
    have HNN := Lib.hid hnn
    have HLAT := Lib.hid lat
    have hnb : nn ≤ 10 := by rw [hnn]; simp; omega
    clear HI0 hown hnil hnn
    by_cases hlt : k < N
    · have HBK := Lib.hid (fun (wz : World) => Blk.new wz #[.int .i64 2, .int .i64 a, .string ⟨#[]⟩] 54 wz.heap.size rfl)
      have HOB := Lib.hid (fun (o : Obj) => own_later HOWN.out (Later.new wr o))
      have hs1 := lat.size
      clear lat
      go_wp2_with (at_builtin; refine wpList_append_g _ rfl (.tmp 33) (.tmp 36) 51 rfl W.heap.size 54 _ 3 32 Tryd.underlying51 info_v rfl (by decide) _ nn _ rfl (HOB.out _) _ 1 1 (fl [n2 a]) rfl (HBK.out wr).has rfl (by intro h; cases h) (fl_one _) (by unfold maxLen; omega) (by omega) (by simp; omega) ?_; rintro A' c' wq hO _ hbel hn2; have HO2 := Lib.hid hO; have HN2 := Lib.hid hn2; have HL3 := Lib.hid (Later.of ((HLAT.out.alloc _).below.trans hbel)); clear hO hn2 hbel)
      go_roundw
      case rel =>
        refine OvI.mk _ (k + 1) _ _ _ ?_ hlt ?_ ?_ HN2.out HL3.out
        · omega
        · have := HNN.out; simp at this ⊢; omega
        · rw [List.replicate_succ', ← List.append_assoc, fl_append]; exact HO2.out
      case measure => simp [intOf]; omega
    · obtain rfl : k = N := by omega
      rw [List.nil_append] at HOWN
      obtain rfl : nn = k := by have := HNN.out; simpa using this
      have HJ0 := Lib.hid (OvI.mk (xs0 := List.replicate nn (n2 a)) (a := b) (M := M) (W := W) (wr := wr) 0 0 A nn c rfl (Nat.zero_le _) (by simp) (by rw [List.replicate_zero, List.append_nil]; exact HOWN.out) HNIL.out lat)
      clear HOWN HNIL HNN HLAT lat hnb hk
      go_wp2_with fail
      go_loopw [11, 13] (fun lv iv wr => OvI (List.replicate nn (n2 a)) b M W lv iv wr) (fun _ i _ => M - (intOf i).toNat)
      case atStart => exact HJ0.out
      case round =>
        obtain ⟨k, A, kn, c, rfl, rfl, hk, hnn, hown, hnil, lat⟩ := hrel
        have HOWN := Lib.hid hown
        have HNIL := Lib.hid hnil
        have HNN := Lib.hid hnn
        have HLAT := Lib.hid lat
        have hnb : kn ≤ 10 := by rw [hnn]; simp; omega
        clear HJ0 hown hnil hnn
        by_cases hltm : k < M
        · have HBK := Lib.hid (fun (wz : World) => Blk.new wz #[.int .i64 2, .int .i64 b, .string ⟨#[]⟩] 54 wz.heap.size rfl)
          have HOB := Lib.hid (fun (o : Obj) => own_later HOWN.out (Later.new wr o))
          have hs1 := lat.size
          clear lat
          go_wp2_with (at_builtin; refine wpList_append_g _ rfl (.tmp 45) (.tmp 48) 51 rfl W.heap.size 54 _ 3 32 Tryd.underlying51 info_v rfl (by decide) _ kn _ rfl (HOB.out _) _ 1 1 (fl [n2 b]) rfl (HBK.out wr).has rfl (by intro h; cases h) (fl_one _) (by unfold maxLen; omega) (by omega) (by simp; omega) ?_; rintro A' c' wq hO _ hbel hn2; have HO2 := Lib.hid hO; have HN2 := Lib.hid hn2; have HL3 := Lib.hid (Later.of ((HLAT.out.alloc _).below.trans hbel)); clear hO hn2 hbel)
          go_roundw
          case rel =>
            refine OvI.mk _ (k + 1) _ _ _ ?_ hltm ?_ ?_ HN2.out HL3.out
            · omega
            · have := HNN.out; omega
            · rw [List.replicate_succ', ← List.append_assoc, fl_append]; exact HO2.out
          case measure => simp [intOf]; omega
        · obtain rfl : k = M := by omega
          have HNUM := Lib.hid (show NumL (List.replicate nn (n2 a) ++ List.replicate k (n2 b)) from fun x hx => by
            rcases List.mem_append.1 hx with hx | hx
            · rw [(List.mem_replicate.1 hx).2]; exact ⟨rfl, ha⟩
            · rw [(List.mem_replicate.1 hx).2]; exact ⟨rfl, hb⟩)
          have HLEN := Lib.hid (show kn = (List.replicate nn (n2 a) ++ List.replicate k (n2 b)).length from by rw [HNN.out]; simp)
          generalize List.replicate nn (n2 a) ++ List.replicate k (n2 b) = L at HNUM HLEN HOWN
          obtain rfl := HLEN.out
          have HHL := Lib.hid (Has.ownG HOWN.out)
          have HCAP := Lib.hid (And.intro (ownG_cap HOWN.out) (ownG_capmax HOWN.out))
          obtain ⟨wl, hwl⟩ : ∃ x, x = wr := ⟨_, rfl⟩
          subst hwl
          have HK0 := Lib.hid (OvT.mk (L := L) (turn := turn) (W := wl) (wr := wl) 0 0 none 0 rfl (Nat.zero_le _) (ownG_nil _ _ _ _) (fun _ => rfl) (Later.refl _))
          clear HNN HOWN HLEN lat
          go_wp2_with fail
          go_loopw [14, 15] (fun lv iv wr => OvT L turn wl lv iv wr) (fun _ i _ => L.length - (intOf i).toNat)
          case atStart => exact HK0.out
          case round =>
            obtain ⟨j, T, tc, rfl, rfl, hj, hown, htnil, lat⟩ := hrel
            have HOWN := Lib.hid hown
            have HTNIL := Lib.hid htnil
            have HLT := Lib.hid lat
            clear HK0 hown htnil
            by_cases hltj : j < L.length
            · obtain ⟨q, hq⟩ : ∃ q, (j + turn) % L.length = q := ⟨_, rfl⟩
              have hrem : ((j : Int) + (turn : Int)).tmod (L.length : Int) = (q : Int) := by
                rw [Int.tmod_eq_emod_of_nonneg (by omega), ← hq]; simp
              have hK0 : ((L.length : Int) == 0) = false := by simp; intro e; rw [e] at hltj; simp at hltj
              have hql : q < L.length := by rw [← hq]; exact Nat.mod_lt _ (by omega)
              have hqz : (q : Int) < (L.length : Int) := by omega
              have HRS := Lib.hid (show rotT L turn (j + 1) = rotT L turn j ++ [L[q]] from by
                rw [rotT_succ, hq, List.getD_eq_getElem?_getD, List.getElem?_eq_getElem hql]; rfl)
              obtain ⟨lb, lo, hLA, c0, c1, c2⟩ := (HHL.out.later lat).val3 q hql
              subst hLA
              have HX := Lib.hid (show L[q] = (L[q].1, L[q].2.1, L[q].2.2) from rfl)
              rw [HX.out] at HRS
              clear HX
              generalize L[q].1 = t at c0 HRS
              generalize L[q].2.1 = i at c1 HRS
              generalize L[q].2.2 = s at c2 HRS
              have hwt : IntKind.i64.wrap (turn : Int) = (turn : Int) := IntWalk.i64_in _ ⟨by omega, by omega⟩
              have HBK := Lib.hid (fun (wz : World) => Blk.new wz #[.int .i64 t, .int .i64 i, .string s] 54 wz.heap.size rfl)
              have HOB := Lib.hid (fun (o : Obj) => own_later HOWN.out (Later.new wr o))
              have hs1 := lat.size
              clear lat hq
              go_wp2_with (at_builtin; refine wpList_append_g _ rfl (.tmp 56) (.tmp 67) 51 rfl wl.heap.size 54 _ 3 32 Tryd.underlying51 info_v rfl (by decide) _ j _ rfl (HOB.out _) _ 1 1 (fl [(t, i, s)]) rfl (HBK.out wr).has rfl (by intro h; cases h) (fl_one _) (by unfold maxLen; omega) (by omega) (by simp; omega) ?_; rintro A' c' wq hO _ hbel hn2; have HO2 := Lib.hid hO; have HN2 := Lib.hid hn2; have HL3 := Lib.hid (Later.of ((HLT.out.alloc _).below.trans hbel)); clear hO hn2 hbel)
              go_roundw
              case rel =>
                refine OvT.mk _ (j + 1) _ _ ?_ hltj ?_ HN2.out HL3.out
                · omega
                · rw [HRS.out, fl_append]; exact HO2.out
              case measure => simp [intOf]; omega
            · obtain rfl : j = L.length := by omega
              have HNT := Lib.hid (HNUM.out.rot turn)
              have HST := Lib.hid (sumV_rot HNUM.out turn)
              have HTL := Lib.hid (rotT_len L turn L.length)
              generalize rotT L turn L.length = TT at HNT HST HTL HOWN
              have HHT := Lib.hid (Has.ownG HOWN.out)
              have HCT := Lib.hid (And.intro (ownG_cap HOWN.out) (ownG_capmax HOWN.out))
              obtain ⟨g, hg⟩ : ∃ g, wr.heap.size = g := ⟨_, rfl⟩
              obtain ⟨w2, hw2⟩ : ∃ x, (wr.alloc (.cells #[.slice A L.length c] 51)).alloc (.cells #[.int .i64 2, .int .i64 0] 41) = x := ⟨_, rfl⟩
              have l2 : Later wr w2 := hw2 ▸ (Later.new _ _).alloc _
              have b0 : Blk w2 g #[.slice A L.length c] 51 := hw2 ▸ (Blk.new wr _ _ _ hg.symm).later (Later.new _ _)
              have b1 : Blk w2 (g + 1) #[.int .i64 2, .int .i64 0] 41 := hw2 ▸ Blk.new _ _ _ _ (by simp; omega)
              have HRUN := Lib.hid (over_call A c g (g + 1) L a0 a1 a2 w2 (HS.out.later ((HLW.out.trans HLAT.out).trans (lat.trans l2))) HNUM.out (by omega) b0 b1 (HHL.out.later (lat.trans l2)) HCAP.out HNIL.out)
              have HW2 := Lib.hid hw2
              have HL2 := Lib.hid ((HLW.out.trans HLAT.out).trans (lat.trans l2))
              have HHT2 := Lib.hid (HHT.out.later l2)
              have HHL2 := Lib.hid (HHL.out.later (lat.trans l2))
              have HG := Lib.hid hg
              have HG := Lib.hid hg
              have HG := Lib.hid hg
              have HG := Lib.hid hg
              have HG := Lib.hid hg
              have HG := Lib.hid hg
              clear hw2 l2 b0 b1 HOWN HHT HHL lat hg
              go_wp2_with fail
              rw [HW2.out, HG.out]
              refine HRUN.out.mono ?_
              clear HRUN
              rintro e w3 (⟨v, RA, rc, rs, hsv, rfl, hrs, hat, l3⟩ | ⟨hsv, rfl, l3⟩)
              · have HSV := Lib.hid hsv
                have HRS := Lib.hid hrs
                have HAT := Lib.hid hat
                have HL3 := Lib.hid (HL2.out.trans l3)
                have HHT3 := Lib.hid (HHT2.out.later l3)
                have HHL3 := Lib.hid (HHL2.out.later l3)
                clear hsv l3 hrs hat
                obtain ⟨g3, hg3⟩ : ∃ g, w3.heap.size = g := ⟨_, rfl⟩
                obtain ⟨w4, hw4⟩ : ∃ x, (w3.alloc (.cells #[.slice T L.length tc] 51)).alloc (.cells #[.int .i64 2, .int .i64 0] 41) = x := ⟨_, rfl⟩
                have l4 : Later w3 w4 := hw4 ▸ (Later.new _ _).alloc _
                have b0 : Blk w4 g3 #[.slice T L.length tc] 51 := hw4 ▸ (Blk.new w3 _ _ _ hg3.symm).later (Later.new _ _)
                have b1 : Blk w4 (g3 + 1) #[.int .i64 2, .int .i64 0] 41 := hw4 ▸ Blk.new _ _ _ _ (by simp; omega)
                have b2 : Blk w4 g3 #[.slice T TT.length tc] 51 := by rw [HTL.out]; exact b0
                have HRUN := Lib.hid (over_call T tc g3 (g3 + 1) TT a0 a1 a2 w4 (HS.out.later (HL3.out.trans l4)) HNT.out (by rw [HTL.out]; omega) b2 b1 (HHT3.out.later l4) (by rw [HTL.out]; exact HCT.out) HTNIL.out)
                have HW4 := Lib.hid hw4
                have HG3 := Lib.hid hg3
                have HL4 := Lib.hid (HL3.out.trans l4)
                have HLL4 := Lib.hid l4
                have HHL4 := Lib.hid (HHL3.out.later l4)
                clear hw4 l4 b0 b1 b2 HHT3 HHL3 hg3 HHL2
                go_wp2_with fail
                rw [HW4.out, HG3.out]
                refine HRUN.out.mono ?_
                clear HRUN
                rintro e w5 (⟨v2, RB, rd, ss, hsw, rfl, hss, hbt, l5⟩ | ⟨hsw, rfl, l5⟩)
                · obtain rfl : v = v2 := by have h := HST.out; rw [hsw, HSV.out] at h; injection h with h; exact h.symm
                  have HL5 := Lib.hid (HL4.out.trans l5)
                  have HHL5 := Lib.hid (HHL4.out.later l5)
                  have HAT5 := Lib.hid (HAT.out.later (HLL4.out.trans l5))
                  have hl1 : ∀ s ∈ rs, s.l.length ≤ 1000 := fun s hs => by
                    have h2 : s.l ∈ rs.map (·.l) := List.mem_map.2 ⟨s, hs, rfl⟩
                    rw [HRS.out, List.mem_singleton] at h2; rw [h2]; exact (show (1 : Nat) ≤ 1000 by omega)
                  have hl2 : ∀ s ∈ ss, s.l.length ≤ 1000 := fun s hs => by
                    have h2 : s.l ∈ ss.map (·.l) := List.mem_map.2 ⟨s, hs, rfl⟩
                    rw [hss, List.mem_singleton] at h2; rw [h2]; exact (show (1 : Nat) ≤ 1000 by omega)
                  have n1 : 1 = rs.length := by have := congrArg List.length HRS.out; rw [List.length_map] at this; exact this.symm
                  have n2 : 1 = ss.length := by have := congrArg List.length hss; rw [List.length_map] at this; exact this.symm
                  have HSM := Lib.hid (refSameRows_any RA RB 1 1 rc rd rs ss w5 n1 n2 (by omega) (by omega) HAT5.out hbt hl1 hl2)
                  have HYES := Lib.hid (show rs.map (·.l) = ss.map (·.l) from HRS.out.trans hss.symm)
                  have HN1 := Lib.hid n1
                  clear hl1 hl2 n1 n2 hss hbt hsw l5 HAT
                  go_wp2_with (go_at_call 12; refine HSM.out.mono ?_; rintro e w6 ht; obtain ⟨rfl, l6⟩ := ht.yes HYES.out; have HL6 := Lib.hid (HL5.out.trans l6); have HHL6 := Lib.hid (HHL5.out.later l6); have HAT6 := Lib.hid (HAT5.out.later l6); clear ht l6 HSM)
                  have HD0 := Lib.hid (DaI.mk (L := L) (w := w6) (wr := w6) 0 0 0 0 rfl (Nat.zero_le _) (by simp [sumI]) (by omega) (by omega) (by omega) (by omega) (Later.refl _))
                  go_loopw [20, 21, 22] (fun hv lv iv wr => DaI L w6 hv lv iv wr) (fun _ _ i _ => L.length - (intOf i).toNat)
                  case atStart => exact HD0.out
                  case round =>
                    obtain ⟨y, h, l, rfl, rfl, rfl, hy, hsum, hl0, hl1, hh0, hh1, lat⟩ := hrel
                    have HSUM := Lib.hid hsum
                    have HLT := Lib.hid lat
                    clear HD0 hsum
                    by_cases hlty : y < L.length
                    · obtain ⟨lb, lo, hLA, c0, c1, c2⟩ := (HHL6.out.later lat).val3 y hlty
                      subst hLA
                      have hxi := (HNUM.out _ (List.getElem_mem hlty)).2
                      have HTK := Lib.hid (show sumI (L.take (y + 1)) = sumI (L.take y) + L[y].2.1 from by rw [List.take_succ_eq_append_getElem hlty, sumI_append]; simp [sumI])
                      generalize L[y].2.1 = i at c1 hxi HTK
                      generalize L[y].1 = t at c0
                      generalize L[y].2.2 = s at c2
                      clear lat
                      go_wp2_with fail
                      obtain ⟨r, hr⟩ : ∃ r, i % 4294967296 = r := ⟨_, rfl⟩
                      have hi32 : i = i / 4294967296 * 4294967296 + r := by omega
                      have hr0 : 0 ≤ r ∧ r ≤ 4294967295 := by omega
                      have e32 : bits BinOp.and IntKind.i64 i 4294967295 = r := by rw [and32]; exact hr
                      obtain ⟨qq, hqq⟩ : ∃ q, i / 4294967296 = q := ⟨_, rfl⟩
                      have hq0 : -2147483648 ≤ qq ∧ qq ≤ 2147483647 := by omega
                      have HI32 := Lib.hid hi32
                      clear hr hi32
                      have hyb : (y : Int) ≤ 10 := by omega
                      go_wp2_with fail
                      go_quiet (fail)
                      go_wp2_with fail
                      go_roundw
                      case rel =>
                        refine DaI.mk _ (y + 1) _ _ (by omega) hlty ?_ ?_ ?_ ?_ ?_ (HLT.out.drewN _)
                        · have h1 := HTK.out; have h2 := HSUM.out; have h3 := HI32.out; rw [hqq] at h3; rw [h1, h2]; omega
                        · omega
                        · have := hr0.2; push_cast; omega
                        · have := hq0.1; push_cast; omega
                        · have := hq0.2; push_cast; omega
                      case measure => simp [intOf]; omega
                    · obtain rfl : y = L.length := by omega
                      rw [List.take_length] at HSUM
                      obtain ⟨r, hr⟩ : ∃ r, l % 4294967296 = r := ⟨_, rfl⟩
                      have hr0 : 0 ≤ r ∧ r ≤ 4294967295 := by omega
                      have e32 : bits BinOp.and IntKind.i64 l 4294967295 = r := by rw [and32]; exact hr
                      obtain ⟨q, hq⟩ : ∃ q, l / 4294967296 = q := ⟨_, rfl⟩
                      have hq0 : 0 ≤ q ∧ q ≤ 10 := by omega
                      have HALL := Lib.hid (show sumI L = (h + q) * 4294967296 + r from by have := HSUM.out; omega)
                      have HNV := Lib.hid (sumV_num HNUM.out)
                      clear hr
                      by_cases hL : L.length = 0
                      · have HLN := Lib.hid (List.eq_nil_of_length_eq_zero hL)
                        have HV := Lib.hid (show v = z3 from by have h1 := HNV.out; rw [HSV.out, if_pos HLN.out] at h1; injection h1)
                        obtain ⟨rb, ro, rfl, rc0, hrow, _⟩ := (HAT6.out.later lat).get 0 (by have := HN1.out; omega)
                        have hr1 : (rs[0]'(by have := HN1.out; omega)).l = [v] := (by have h1 : (rs.map (·.l))[0]? = [[v]][0]? := (by rw [HRS.out]); rw [List.getElem?_map, List.getElem?_eq_getElem (by have := HN1.out; omega)] at h1; simpa using h1)
                        rw [hr1] at rc0 hrow
                        obtain ⟨vb, vo, hva, d0, d1, d2⟩ := hrow.val3 0 (by simp)
                        rw [hva] at rc0
                        simp only [List.length_singleton, List.getElem_cons_zero, Nat.zero_mul, Nat.add_zero, HV.out, z3] at rc0 d0 d1 d2
                        clear hr1 hrow hva lat
                        go_wp2_with fail
                        all_goals (go_ret; exact ⟨rfl, HL6.out.trans HLT.out⟩)
                      · have hLN : ¬ L = [] := fun e => hL (by rw [e]; rfl)
                        have hin : -9223372036854775808 ≤ sumI L ∧ sumI L ≤ 9223372036854775807 := by
                          have h1 := HNV.out; rw [HSV.out, if_neg hLN] at h1
                          by_cases hc : -9223372036854775808 ≤ sumI L ∧ sumI L ≤ 9223372036854775807
                          · exact hc
                          · rw [if_neg hc] at h1; cases h1
                        have HV := Lib.hid (show v = (2, (h + q) * 4294967296 + r, ⟨#[]⟩) from by have h1 := HNV.out; rw [HSV.out, if_neg hLN, if_pos hin] at h1; injection h1 with h1; rw [h1, ← HALL.out])
                        have hlow : -2147483648 ≤ h + q ∧ h + q < 2147483648 := by have := HALL.out; omega
                        obtain ⟨rb, ro, rfl, rc0, hrow, _⟩ := (HAT6.out.later lat).get 0 (by have := HN1.out; omega)
                        have hr1 : (rs[0]'(by have := HN1.out; omega)).l = [v] := (by have h1 : (rs.map (·.l))[0]? = [[v]][0]? := (by rw [HRS.out]); rw [List.getElem?_map, List.getElem?_eq_getElem (by have := HN1.out; omega)] at h1; simpa using h1)
                        rw [hr1] at rc0 hrow
                        obtain ⟨vb, vo, hva, d0, d1, d2⟩ := hrow.val3 0 (by simp)
                        rw [hva] at rc0
                        simp only [List.length_singleton, List.getElem_cons_zero, Nat.zero_mul, Nat.add_zero, HV.out] at rc0 d0 d1 d2
                        clear hr1 hrow hva lat
                        clear hin hLN
                        go_wp2_with fail
                        all_goals (go_ret; exact ⟨rfl, HL6.out.trans HLT.out⟩)
                · have h := HST.out; rw [hsw, HSV.out] at h; cases h
              · have HSV := Lib.hid hsv
                have HL3 := Lib.hid (HL2.out.trans l3)
                have HHT3 := Lib.hid (HHT2.out.later l3)
                have HHL3 := Lib.hid (HHL2.out.later l3)
                clear hsv l3
                obtain ⟨g3, hg3⟩ : ∃ g, w3.heap.size = g := ⟨_, rfl⟩
                obtain ⟨w4, hw4⟩ : ∃ x, (w3.alloc (.cells #[.slice T L.length tc] 51)).alloc (.cells #[.int .i64 2, .int .i64 0] 41) = x := ⟨_, rfl⟩
                have l4 : Later w3 w4 := hw4 ▸ (Later.new _ _).alloc _
                have b0 : Blk w4 g3 #[.slice T L.length tc] 51 := hw4 ▸ (Blk.new w3 _ _ _ hg3.symm).later (Later.new _ _)
                have b1 : Blk w4 (g3 + 1) #[.int .i64 2, .int .i64 0] 41 := hw4 ▸ Blk.new _ _ _ _ (by simp; omega)
                have b2 : Blk w4 g3 #[.slice T TT.length tc] 51 := by rw [HTL.out]; exact b0
                have HRUN := Lib.hid (over_call T tc g3 (g3 + 1) TT a0 a1 a2 w4 (HS.out.later (HL3.out.trans l4)) HNT.out (by rw [HTL.out]; omega) b2 b1 (HHT3.out.later l4) (by rw [HTL.out]; exact HCT.out) HTNIL.out)
                have HW4 := Lib.hid hw4
                have HG3 := Lib.hid hg3
                have HL4 := Lib.hid (HL3.out.trans l4)
                have HLL4 := Lib.hid l4
                have HHL4 := Lib.hid (HHL3.out.later l4)
                clear hw4 l4 b0 b1 b2 HHT3 HHL3 hg3 HHL2
                go_wp2_with fail
                rw [HW4.out, HG3.out]
                refine HRUN.out.mono ?_
                clear HRUN
                rintro e w5 (⟨v2, RB, rd, ss, hsw, rfl, hss, hbt, l5⟩ | ⟨hsw, rfl, l5⟩)
                · have h := HST.out; rw [hsw, HSV.out] at h; cases h
                · have HL5 := Lib.hid (HL4.out.trans l5)
                  have HHL5 := Lib.hid (HHL4.out.later l5)
                  have HSM := Lib.hid (refSameRows_any none none 0 0 0 0 [] [] w5 rfl rfl (by omega) (by omega) ⟨.inl rfl, fun s hs => by cases hs⟩ ⟨.inl rfl, fun s hs => by cases hs⟩ (fun s hs => by cases hs) (fun s hs => by cases hs))
                  have HYES := Lib.hid (show ([] : List SlV).map (·.l) = ([] : List SlV).map (·.l) from rfl)
                  clear hsw l5
                  go_wp2_with (go_at_call 12; refine HSM.out.mono ?_; rintro e w6 ht; obtain ⟨rfl, l6⟩ := ht.yes HYES.out; have HL6 := Lib.hid (HL5.out.trans l6); have HHL6 := Lib.hid (HHL5.out.later l6); clear ht l6 HSM)
                  have HD0 := Lib.hid (DaI.mk (L := L) (w := w6) (wr := w6) 0 0 0 0 rfl (Nat.zero_le _) (by simp [sumI]) (by omega) (by omega) (by omega) (by omega) (Later.refl _))
                  go_loopw [20, 21, 22] (fun hv lv iv wr => DaI L w6 hv lv iv wr) (fun _ _ i _ => L.length - (intOf i).toNat)
                  case atStart => exact HD0.out
                  case round =>
                    obtain ⟨y, h, l, rfl, rfl, rfl, hy, hsum, hl0, hl1, hh0, hh1, lat⟩ := hrel
                    have HSUM := Lib.hid hsum
                    have HLT := Lib.hid lat
                    clear HD0 hsum
                    by_cases hlty : y < L.length
                    · obtain ⟨lb, lo, hLA, c0, c1, c2⟩ := (HHL6.out.later lat).val3 y hlty
                      subst hLA
                      have hxi := (HNUM.out _ (List.getElem_mem hlty)).2
                      have HTK := Lib.hid (show sumI (L.take (y + 1)) = sumI (L.take y) + L[y].2.1 from by rw [List.take_succ_eq_append_getElem hlty, sumI_append]; simp [sumI])
                      generalize L[y].2.1 = i at c1 hxi HTK
                      generalize L[y].1 = t at c0
                      generalize L[y].2.2 = s at c2
                      clear lat
                      go_wp2_with fail
                      obtain ⟨r, hr⟩ : ∃ r, i % 4294967296 = r := ⟨_, rfl⟩
                      have hi32 : i = i / 4294967296 * 4294967296 + r := by omega
                      have hr0 : 0 ≤ r ∧ r ≤ 4294967295 := by omega
                      have e32 : bits BinOp.and IntKind.i64 i 4294967295 = r := by rw [and32]; exact hr
                      obtain ⟨qq, hqq⟩ : ∃ q, i / 4294967296 = q := ⟨_, rfl⟩
                      have hq0 : -2147483648 ≤ qq ∧ qq ≤ 2147483647 := by omega
                      have HI32 := Lib.hid hi32
                      clear hr hi32
                      have hyb : (y : Int) ≤ 10 := by omega
                      go_wp2_with fail
                      go_quiet (fail)
                      go_wp2_with fail
                      go_roundw
                      case rel =>
                        refine DaI.mk _ (y + 1) _ _ (by omega) hlty ?_ ?_ ?_ ?_ ?_ (HLT.out.drewN _)
                        · have h1 := HTK.out; have h2 := HSUM.out; have h3 := HI32.out; rw [hqq] at h3; rw [h1, h2]; omega
                        · omega
                        · have := hr0.2; push_cast; omega
                        · have := hq0.1; push_cast; omega
                        · have := hq0.2; push_cast; omega
                      case measure => simp [intOf]; omega
                    · obtain rfl : y = L.length := by omega
                      rw [List.take_length] at HSUM
                      obtain ⟨r, hr⟩ : ∃ r, l % 4294967296 = r := ⟨_, rfl⟩
                      have hr0 : 0 ≤ r ∧ r ≤ 4294967295 := by omega
                      have e32 : bits BinOp.and IntKind.i64 l 4294967295 = r := by rw [and32]; exact hr
                      obtain ⟨q, hq⟩ : ∃ q, l / 4294967296 = q := ⟨_, rfl⟩
                      have hq0 : 0 ≤ q ∧ q ≤ 10 := by omega
                      have HALL := Lib.hid (show sumI L = (h + q) * 4294967296 + r from by have := HSUM.out; omega)
                      have HNV := Lib.hid (sumV_num HNUM.out)
                      clear hr
                      by_cases hL : L.length = 0
                      · exfalso; have h1 := HNV.out; rw [HSV.out, if_pos (List.eq_nil_of_length_eq_zero hL)] at h1; cases h1
                      · have hno : ¬(-2147483648 ≤ h + q ∧ h + q < 2147483648) := by
                          have h1 := HNV.out; rw [HSV.out, if_neg (fun e => hL (by rw [e]; rfl))] at h1
                          intro hf; rw [if_pos (by have := HALL.out; omega)] at h1; cases h1
                        by_cases hlow : -2147483648 ≤ h + q
                        · have hhi : ¬ h + q < 2147483648 := fun h2 => hno ⟨hlow, h2⟩
                          clear hno
                          go_wp2_with fail
                          go_ret
                          exact ⟨rfl, HL6.out.trans HLT.out⟩
                        · clear hno
                          go_wp2_with fail
                          go_ret
                          exact ⟨rfl, HL6.out.trans HLT.out⟩
end Go.Proofs.YtfmjpjnkjbognaaDoor
