import Derived.WalkKit
import Derived.WalkSpells
import Derived.WalkLawsBesides
import Derived.Laws.AppendOwnNone
import Derived.Test.YtlacligofhinmaaGreatV2
import Derived.Test.YtlacligofhinmaaGreatV1
import Derived.Test.YtlacligofhinmaaGreatProg
import Derived.Defers
import Derived.Recover
import Derived.RegionTactic
import Derived.Laws.Pointers
import Derived.Laws.Rows
import Derived.Maps.OwnSet
import Derived.OwnWalk
import Derived.Deep.Draws
import Derived.Carry
import Derived.Deep.RegionHeld3
import Derived.Deep.AppendLies
import Derived.RangeFuncBox
import Derived.Deep.RegionLaw
import Derived.Deep.DrawnRows
import Derived.RangeFuncNested
import Derived.RangeFuncBound
import Derived.RangeFuncCalls
import Derived.RangeFuncLeaves
import Derived.Shelf.Abstract
import Derived.Shelf.RegionOpen
import Derived.OwnWalkIn
import Derived.TacticsInMore
import Derived.LoopNIn
import Derived.LoopIn
import Derived.Maps.OwnIn
import Derived.Sort.QuietIn
import Derived.Shelf.Small.Wraps
import Derived.Shelf.Sort.Plain
import Derived.Shelf.Slices.CompactI
import Derived.Shelf.Slices.In.SortNone
import Derived.Shelf.SlicesE.Clone
import Derived.Shelf.SlSortCmp.WholeK
import Derived.Shelf.SlSortCmp.NoneTotal
import Derived.Test.YtlacligofhinmaaGreatRows
import Derived.OrdersIn
namespace Go.Proofs.YtlacligofhinmaaGreat
open Go.RowKit
set_option linter.unusedVariables false
set_option maxRecDepth 100000

theorem owns_mono {w : World} {b b' : Nat} {e : TypeId} {size : Nat} {v : Value} {n : Nat} {xs : List Value} (h : w.ownsRow b e size v n xs) (hb : b' ≤ b) : w.ownsRow b' e size v n xs := by
  refine ⟨h.1, ?_⟩
  rcases h.2 with h2 | ⟨g, cap, cur, hv, hg, r⟩
  · exact .inl h2
  · exact .inr ⟨g, cap, cur, hv, Nat.le_trans hb hg, r⟩
/-- the block of a slice is the old one or a new one -/
def Fresh (w : World) (v v' : Value) : Prop := v'.ownBlock = v.ownBlock ∨ ∃ g, v'.ownBlock = some g ∧ w.heap.size ≤ g
theorem fresh_of_owns {w w' : World} {v' : Value} {e : TypeId} {n : Nat} {xs : List Value} (h : w'.ownsRow w.heap.size e 1 v' n xs) : v'.ownBlock = none ∨ ∃ g, v'.ownBlock = some g ∧ w.heap.size ≤ g := by
  rcases h.2 with ⟨hv, _⟩ | ⟨g, cap, cur, hv, hg, _⟩
  · subst hv; exact .inl rfl
  · subst hv; exact .inr ⟨g, rfl, hg⟩

/-- append to a row of one's own (nil, with room or without), from whatever slice (nil too): the block is the old one or a new one -/
theorem wpList_append_two {P : Program} (w : World) {ops : Array Oper} {rest : List Oper} {o : Oper} {a : Act} {Q : Exit → Act → World → Prop} (hgd : o.guard = none) (s x : Operand) (t : TypeId)
    (ho : o.op = .call { callee := .builtin .append, args := #[s, x], argTypes := #[t, t] })
    (base : Nat) (e : TypeId) (i : TypeInfo) (z : Value) (bytes : Nat) (ht : P.underlying t = some (.slice e)) (hi : P.info? e = some i) (hz : i.zero = some z)
    (hsize : i.size = 1) (hby : i.bytes = bytes) (hzs : z.cells.size = 1)
    (v : Value) (n : Nat) (xs : List Value) (hs : a.eval s = v) (hown : w.ownsRow base e 1 v n xs)
    (ao : Option Addr) (m c : Nat) (news : List Value) (hx : a.eval x = .slice ao m c) (hnone : ao = none → m = 0 ∧ c = 0) (hl : news.length = m)
    (hnews : ∀ ad, ao = some ad → ∀ j u, news[j]? = some u → w.cell? (ad.add j) = some u) (h1 : ∀ u ∈ news, u.oneCell' = true)
    (h63 : n + m ≤ maxLen) (hbytes : (n + m) * bytes ≤ 140737488355328) (hbase : base ≤ w.heap.size)
    (h : ∀ v' w', w'.ownsRow base e 1 v' (n + m) (xs ++ news) → w.grownBy w' v.ownBlock → Fresh w v v' → wpList P ops Q rest (a.put o.dst v') w') : wpList P ops Q (o :: rest) a w := by
  cases ao with
  | none =>
    obtain ⟨rfl, rfl⟩ := hnone rfl
    have hnil : news = [] := List.eq_nil_of_length_eq_zero hl
    subst hnil
    refine wpList_append_own_none hgd s x t ho base e i 1 ht hi v n xs hs hown hx ?_
    exact h v w (by simpa using hown) (World.grownBy.refl w _) (.inl rfl)
  | some ad =>
    have hl' : news.length = m * 1 := by omega
    rcases hown.2 with ⟨hv, hn⟩ | ⟨g, cap, cur, hv, hg, hcur, hnc, hcm, hsz, htk⟩
    · subst hv; subst hn
      have hxs : xs = [] := List.eq_nil_of_length_eq_zero (by simpa using hown.1)
      subst hxs
      refine wpList_append_own w hgd s x t ho w.heap.size e i z 1 bytes ht hi hz hsize hby hzs (by decide) _ 0 [] hs (World.ownsRow_nil _ _ _ _) ad m c news hx hl' (hnews ad rfl) h1 h63 hbytes (Nat.le_refl _) ?_
      intro v' w' ho' hg' _
      refine h v' w' (owns_mono ho' hbase) hg' ?_
      rcases fresh_of_owns ho' with hf | hf
      · exact .inl hf
      · exact .inr hf
    · subst hv
      by_cases hroom : n + m ≤ cap
      · refine wpList_append_fits w hgd s x t ho base e i 1 ht hi hsize g n cap xs hs hown ad m c news hx hl' (hnews ad rfl) h1 hroom ?_
        intro w' ho' hg'
        exact h _ w' ho' hg' (.inl rfl)
      · refine wpList_append_grows w hgd s x t ho e i z 1 bytes ht hi hz hsize hby hzs (by decide) (some ⟨g, 0, none⟩) n cap xs hs (fun h => by simp at h) (by simpa using hown.1) ?_ ad m c news hx hl' (hnews ad rfl) h1 (by omega) h63 hbytes ?_
        · intro b hb j u hu
          cases hb
          have hj : j < n * 1 := by
            have := (List.getElem?_eq_some_iff.1 hu).1
            rw [hown.1] at this; exact this
          rw [WideShapes.add_plain, Nat.zero_add, hown.cellAt j hj]; exact hu
        · intro v' w' ho' hg'
          refine h v' w' (owns_mono ho' hbase) ?_ ?_
          · exact ⟨hg'.os, hg'.tape, hg'.output, hg'.size, fun k hk _ => hg'.block k hk (by simp)⟩
          · rcases fresh_of_owns ho' with hf | hf
            · exfalso
              rcases ho'.2 with ⟨hv', hn'⟩ | ⟨g', cap', cur', hv', _⟩
              · omega
              · subst hv'; simp [Value.ownBlock] at hf
            · exact .inr hf

/-- append where there is room, from whatever slice (nil too) -/
theorem wpList_append_room {P : Program} (w : World) {ops : Array Oper} {rest : List Oper} {o : Oper} {a : Act} {Q : Exit → Act → World → Prop} (hgd : o.guard = none) (s x : Operand) (t : TypeId)
    (ho : o.op = .call { callee := .builtin .append, args := #[s, x], argTypes := #[t, t] })
    (base : Nat) (e : TypeId) (i : TypeInfo) (ht : P.underlying t = some (.slice e)) (hi : P.info? e = some i) (hsize : i.size = 1)
    (g n cap : Nat) (xs : List Value) (hs : a.eval s = .slice (some ⟨g, 0, none⟩) n cap) (hown : w.ownsRow base e 1 (.slice (some ⟨g, 0, none⟩) n cap) n xs)
    (ao : Option Addr) (m c : Nat) (news : List Value) (hx : a.eval x = .slice ao m c) (hnone : ao = none → m = 0 ∧ c = 0) (hl : news.length = m)
    (hnews : ∀ ad, ao = some ad → ∀ j u, news[j]? = some u → w.cell? (ad.add j) = some u) (h1 : ∀ u ∈ news, u.oneCell' = true) (hroom : n + m ≤ cap)
    (h : ∀ w', w'.ownsRow base e 1 (.slice (some ⟨g, 0, none⟩) (n + m) cap) (n + m) (xs ++ news) → w.grownBy w' (some g) → wpList P ops Q rest (a.put o.dst (.slice (some ⟨g, 0, none⟩) (n + m) cap)) w') : wpList P ops Q (o :: rest) a w := by
  cases ao with
  | none =>
    obtain ⟨rfl, rfl⟩ := hnone rfl
    have hnil : news = [] := List.eq_nil_of_length_eq_zero hl
    subst hnil
    refine wpList_append_own_none hgd s x t ho base e i 1 ht hi _ n xs hs hown hx ?_
    exact h w (by simpa using hown) (World.grownBy.refl w _)
  | some ad =>
    exact wpList_append_fits w hgd s x t ho base e i 1 ht hi hsize g n cap xs hs hown ad m c news hx (by omega) (hnews ad rfl) h1 hroom h
end Go.Proofs.YtlacligofhinmaaGreat

namespace Go.Proofs.YtlacligofhinmaaGreat
open Go.RowKit
set_option linter.unusedVariables false
set_option maxRecDepth 100000
theorem BRow.news {w : World} {ao : Option Addr} {cap : Nat} {l : List Nat} (h : BRow w ao cap l) : ∀ ad, ao = some ad → ∀ j u, (l.map bv)[j]? = some u → w.cell? (ad.add j) = some u := by
  intro ad e j u hu
  subst e
  rw [List.getElem?_map] at hu
  by_cases hj : j < l.length
  · rw [List.getElem?_eq_getElem hj] at hu
    obtain ⟨b, off, e, hc⟩ := h.at_ (by rintro rfl; simp at hj)
    cases e
    simp only [Option.map_some, Option.some.injEq] at hu
    subst hu
    rw [add_plain]; exact hc j hj
  · rw [List.getElem?_eq_none (by omega)] at hu; simp at hu
theorem bv_one (l : List Nat) : ∀ u ∈ l.map bv, u.oneCell' = true := by
  intro u hu
  obtain ⟨x, _, rfl⟩ := List.mem_map.1 hu
  rfl
theorem BRow.nil' {w : World} {ao : Option Addr} {cap : Nat} {l : List Nat} (h : BRow w ao cap l) : ao = none → l.length = 0 ∧ cap = 0 := fun e => ⟨by rw [(h.nil e).1]; rfl, (h.nil e).2⟩


set_option maxHeartbeats 1000000 in
theorem clone_some (ad : Addr) (cap n : Nat) (l : List Nat) (w : World) (h : BRow w (some ad) cap l) (HN : Hid (l.length = n)) (hn : n ≤ 140737488351232) :
    Calls Tryz.prog 43 #[.slice (some ad) n cap] w fun e w' => ∃ v, e = .returned v ∧ w'.ownsRow w.heap.size 5 1 v n (l.map bv) ∧ Below w.heap.size w w' := by
  obtain ⟨i0, hi, hz0, hz1, hz2⟩ := info_parts Tryz.info5
  have he : ∀ w : World, (binOp .eql 52 (.slice (some ad) n cap) (.slice none 0 0)).run Tryz.prog w = .ok (.bool false) w := fun w => Lib.run_eql_slice_nil w 52 5 (some ad) n cap 0 0 Tryz.underlying52
  have HB : Hid (∀ o, BRow (w.alloc o) (some ad) cap l) := fun o => h.later ((Below.refl _ _).alloc (Nat.le_refl _) o)
  have HO : Hid ((w.alloc (.cells #[] 5)).ownsRow w.heap.size 5 1 (.slice (some ⟨w.heap.size, 0, none⟩) 0 0) 0 []) :=
    World.ownsRow_lit w #[] 0 (Nat.le_refl _) (Nat.zero_le _) rfl
  clear h
  go_enter Tryz.func43, Tryz.ntmps43
  go_wp2_with (at_builtin; refine wpList_append_two _ rfl (.tmp 5) (.tmp 6) 52 rfl w.heap.size 5 i0 (.int .u8 0) 1 Tryz.underlying52 hi hz0 hz1 hz2 rfl _ 0 [] rfl HO.out (some ad) n cap (l.map bv) rfl (by simp) (by rw [List.length_map]; exact HN.out) (HB.out _).news (bv_one l) (by unfold maxLen; omega) (by omega) (by simp) ?_)
  intro v' w1 ho hg hf
  have hb : Below w.heap.size w w1 := ((Below.refl _ _).alloc (Nat.le_refl _) _).grown hg (by simp) (by intro k hk; simp [Value.ownBlock] at hk; omega)
  clear hg hf
  go_wp2
  go_ret
  exact ⟨_, rfl, ho, hb⟩
end Go.Proofs.YtlacligofhinmaaGreat

namespace Go.Proofs.YtlacligofhinmaaGreat
open Go.RowKit
set_option linter.unusedVariables false
set_option maxRecDepth 100000

set_option maxHeartbeats 400000 in
theorem same_len (ao bo : Option Addr) (cap cap' : Nat) (n m : Nat) (w : World) (hn : n ≤ 140737488351232) (hm : m ≤ 140737488351232) (h : ((n : Int) != (m : Int)) = true) :
    Calls Tryz.prog 26 #[.slice ao n cap, .slice bo m cap'] w fun e w' => e = .returned (.bool false) ∧ w' = w := by
  go_enter Tryz.func26, Tryz.ntmps26
  go_wp2
  go_ret
  exact ⟨rfl, rfl⟩

set_option maxHeartbeats 400000 in
theorem same_nil (ao bo : Option Addr) (cap cap' : Nat) (w : World) :
    Calls Tryz.prog 26 #[.slice ao 0 cap, .slice bo 0 cap'] w fun e w' => e = .returned (.bool true) ∧ w' = w := by
  go_enter Tryz.func26, Tryz.ntmps26
  go_wp2
  refine wp_loop_rounds 1 ?_
  rw [rounds_succ]
  go_wp2
  go_ret
  exact ⟨rfl, rfl⟩

theorem take_ne (l m : List Nat) (k n : Nat) (hl : l.length = n) (hm : m.length = n) (hk : k < n) (h : (l[k]?.getD 0) ≠ (m[k]?.getD 0)) : ¬ l = m := by
  rintro rfl; exact h rfl
theorem take_eq (l m : List Nat) (k n : Nat) (hl : l.length = n) (hm : m.length = n) (hk : k < n) (h : l[k]?.getD 0 = m[k]?.getD 0) (ht : l.take k = m.take k) : l.take (k + 1) = m.take (k + 1) := by
  rw [List.take_succ_eq_append_getElem (by omega), List.take_succ_eq_append_getElem (by omega), ht]
  simp [show k < l.length by omega, show k < m.length by omega] at h
  rw [h]

set_option maxHeartbeats 400000 in
theorem same_some (b off cap b' off' cap' n : Nat) (l m : List Nat) (w : World) (hn : n ≤ 140737488351232) (HL : Hid (l.length = n)) (HM : Hid (m.length = n))
    (HC : Hid (∀ k, k < n → w.cell? ⟨b, off + k, none⟩ = some (.int .u8 ((l[k]?.getD 0 : Nat) : Int)))) (HD : Hid (∀ k, k < n → w.cell? ⟨b', off' + k, none⟩ = some (.int .u8 ((m[k]?.getD 0 : Nat) : Int)))) :
    Calls Tryz.prog 26 #[.slice (some ⟨b, off, none⟩) n cap, .slice (some ⟨b', off', none⟩) n cap'] w fun e w' => e = .returned (.bool (decide (l = m))) ∧ ∃ q, w' = w.drewN q := by
  go_enter Tryz.func26, Tryz.ntmps26
  go_wp2
  go_loopw [5] (fun i wr => ∃ k q : Nat, k ≤ n ∧ i = .int .i64 k ∧ wr = w.drewN q ∧ l.take k = m.take k) (fun i _ => n - (intOf i).toNat)
  case atStart => exact ⟨0, 0, Nat.zero_le _, rfl, rfl, rfl⟩
  case round =>
    obtain ⟨k, q, hk, rfl, rfl, ht⟩ := hrel
    have HT : Hid (l.take k = m.take k) := ht
    clear ht
    by_cases hlt : k < n
    · have hc := HC.out k hlt
      have hd := HD.out k hlt
      by_cases hx : l[k]?.getD 0 = m[k]?.getD 0
      · have HS : Hid (l.take (k + 1) = m.take (k + 1)) := take_eq l m k n HL.out HM.out hlt hx HT.out
        rw [← hx] at hd
        clear hx
        generalize l[k]?.getD 0 = x at *
        go_wp2
        go_quiet (fail)
        go_wp2
        go_roundw
        case rel => exact ⟨k + 1, _, by omega, by go_num, rfl, HS.out⟩
        case measure => simp [intOf]; omega
      · have HS : Hid (¬ l = m) := take_ne l m k n HL.out HM.out hlt hx
        have hne : (((l[k]?.getD 0 : Nat) : Int) != ((m[k]?.getD 0 : Nat) : Int)) = true := by rw [bne_iff_ne]; omega
        clear hx
        generalize l[k]?.getD 0 = x at *
        generalize m[k]?.getD 0 = y at *
        go_wp2
        go_quiet (fail)
        go_wp2
        go_ret
        exact ⟨ret_bool (by rw [decide_eq_false HS.out]), q + nq, by rw [World.drewN_drewN]⟩
    · have HE : Hid (l = m) := by
        have := HT.out
        rwa [List.take_of_length_le (by rw [HL.out]; omega), List.take_of_length_le (by rw [HM.out]; omega)] at this
      go_wp2
      go_ret
      exact ⟨ret_bool (by rw [decide_eq_true HE.out]), _, rfl⟩

theorem same_any (ao bo : Option Addr) (cap cap' : Nat) (l m : List Nat) (w : World) (h : BRow w ao cap l) (h' : BRow w bo cap' m) :
    Calls Tryz.prog 26 #[.slice ao l.length cap, .slice bo m.length cap'] w fun e w' => e = .returned (.bool (decide (l = m))) ∧ ∃ q, w' = w.drewN q := by
  by_cases hlen : l.length = m.length
  · by_cases hl : l = []
    · subst hl
      have hm : m = [] := List.eq_nil_of_length_eq_zero hlen.symm
      subst hm
      exact (same_nil ao bo cap cap' w).mono fun e w' hh => ⟨hh.1, 0, hh.2⟩
    · obtain ⟨b, off, rfl, hc⟩ := h.at_ hl
      obtain ⟨b', off', rfl, hc'⟩ := h'.at_ (by rintro rfl; exact hl (List.eq_nil_of_length_eq_zero hlen))
      rw [← hlen]
      refine same_some b off cap b' off' cap' l.length l m w h.len rfl hlen.symm ?_ ?_
      · intro k hk; rw [hc k hk]; simp [bv, hk]
      · intro k hk; rw [hc' k (by omega)]; simp [bv, show k < m.length by omega]
  · refine (same_len ao bo cap cap' _ _ w h.len h'.len (by rw [bne_iff_ne]; omega)).mono fun e w' hh => ⟨?_, 0, hh.2⟩
    rw [hh.1, decide_eq_false (by rintro rfl; exact hlen rfl)]
end Go.Proofs.YtlacligofhinmaaGreat

namespace Go.Proofs.YtlacligofhinmaaGreat
set_option linter.unusedVariables false

/-- each is followed by the next -/
def Links (R : Nat → Nat → Prop) : List Nat → Prop
  | a :: b :: r => R a b ∧ Links R (b :: r)
  | _ => True
theorem Links.app {R : Nat → Nat → Prop} : ∀ (A : List Nat) (x : Nat) (C : List Nat), Links R (A ++ x :: C) ↔ Links R (A ++ [x]) ∧ Links R (x :: C)
  | [], x, C => by simp [Links]
  | [a], x, C => by simp [Links]
  | a :: b :: A, x, C => by
    have := Links.app (R := R) (b :: A) x C
    simp only [List.cons_append] at this ⊢
    simp only [Links, this, and_assoc]
theorem Links.mono {R R' : Nat → Nat → Prop} : ∀ (l : List Nat), Links R l → (∀ a ∈ l.dropLast, ∀ b ∈ l.tail, R a b → R' a b) → Links R' l
  | [], _, _ => trivial
  | [_], _, _ => trivial
  | a :: b :: r, h, k => by
    refine ⟨k a (by simp) b (by simp) h.1, Links.mono (b :: r) h.2 fun x hx y hy => k x ?_ y ?_⟩
    · rw [List.dropLast_cons_of_ne_nil (by simp)]; exact List.mem_cons_of_mem _ hx
    · exact List.mem_cons_of_mem _ hy
theorem Links.at {R : Nat → Nat → Prop} : ∀ (l : List Nat), Links R l → ∀ (i a b : Nat), l[i]? = some a → l[i + 1]? = some b → R a b
  | [], _, i, a, b, h, _ => by simp at h
  | [_], _, i, a, b, _, h => by simp at h
  | x :: y :: r, h, 0, a, b, ha, hb => by simp at ha hb; subst ha hb; exact h.1
  | x :: y :: r, h, i + 1, a, b, ha, hb => Links.at (y :: r) h.2 i a b (by simpa using ha) (by simpa using hb)

def upd (f : Nat → Nat) (a b : Nat) : Nat → Nat := fun x => if x = a then b else f x
theorem upd_same (f : Nat → Nat) (a b : Nat) : upd f a b a = b := by simp [upd]
theorem upd_other {f : Nat → Nat} {a b x : Nat} (h : x ≠ a) : upd f a b x = f x := by simp [upd, h]
abbrev LK (nx pv : Nat → Nat) (a b : Nat) : Prop := nx a = b ∧ pv b = a
/-- a ring with a gap -/
structure RingL (nx pv : Nat → Nat) (g : Nat) (bs : List Nat) : Prop where
  nd : (g :: bs).Nodup
  lk : Links (LK nx pv) (g :: bs ++ [g])

theorem snoc_form : ∀ (g : Nat) (bs : List Nat), ∃ A x, g :: bs = A ++ [x]
  | g, [] => ⟨[], g, rfl⟩
  | g, b :: bs => by
    obtain ⟨A, x, h⟩ := snoc_form b bs
    exact ⟨g :: A, x, by rw [h]; rfl⟩
theorem cons_form (bs : List Nat) (g : Nat) : ∃ y C, bs ++ [g] = y :: C := by
  cases bs with
  | nil => exact ⟨g, [], rfl⟩
  | cons b r => exact ⟨b, r ++ [g], rfl⟩

theorem RingL.nil (g : Nat) (nx pv : Nat → Nat) (h1 : nx g = g) (h2 : pv g = g) : RingL nx pv g [] := ⟨by simp, ⟨h1, h2⟩, trivial⟩
theorem RingL.pvg {nx pv : Nat → Nat} {g : Nat} {bs : List Nat} (h : RingL nx pv g bs) : pv g ∈ g :: bs := by
  obtain ⟨A, x, e⟩ := snoc_form g bs
  have l := h.lk
  rw [e, List.append_assoc] at l
  have l2 := ((Links.app A x [g]).1 l).2
  rw [l2.1.2, e]; simp
theorem RingL.enter {nx pv : Nat → Nat} {g p : Nat} {bs : List Nat} (h : RingL nx pv g bs) (hp : p ∉ g :: bs) :
    RingL (upd (upd nx p g) (pv g) p) (upd (upd pv p (pv g)) g p) g (bs ++ [p]) := by
  obtain ⟨A, x, e⟩ := snoc_form g bs
  have l := h.lk
  have nd := h.nd
  rw [e, List.append_assoc] at l
  obtain ⟨l1, l2⟩ := (Links.app A x [g]).1 l
  have hx : pv g = x := l2.1.2
  rw [hx]
  have pg : p ≠ g := fun e => hp (by simp [e])
  have px : p ≠ x := fun e' => hp (by rw [e]; simp [e'])
  refine ⟨?_, ?_⟩
  · rw [← List.cons_append, List.nodup_append]
    exact ⟨nd, by simp, fun a ha b hb => by simp at hb; subst hb; rintro rfl; exact hp ha⟩
  · have e2 : g :: (bs ++ [p]) ++ [g] = A ++ x :: [p, g] := by rw [← List.cons_append, e]; simp
    rw [e2]
    refine (Links.app A x [p, g]).2 ⟨Links.mono _ l1 ?_, ⟨?_, ?_⟩, ⟨?_, ?_⟩, trivial⟩
    · intro a ha b hb hab
      have ha' : a ∈ A := by simpa using ha
      rw [← e] at hb
      have hb' : b ∈ bs := by simpa using hb
      have nA := nd
      rw [e, List.nodup_append] at nA
      have ax : a ≠ x := nA.2.2 a ha' x (by simp)
      have ap : a ≠ p := fun e' => hp (by rw [e, ← e']; simp [ha'])
      have bg : b ≠ g := fun e' => (List.nodup_cons.1 nd).1 (e' ▸ hb')
      have bp : b ≠ p := fun e' => hp (by rw [← e']; simp [hb'])
      exact ⟨by rw [upd_other ax, upd_other ap]; exact hab.1, by rw [upd_other bg, upd_other bp]; exact hab.2⟩
    · rw [upd_same]
    · rw [upd_other pg, upd_same]
    · rw [upd_other px, upd_same]
    · rw [upd_same]
theorem RingL.mid {nx pv : Nat → Nat} {g p : Nat} {b1 b2 : List Nat} (h : RingL nx pv g (b1 ++ p :: b2)) : pv p ∈ g :: b1 ∧ nx p ∈ b2 ++ [g] := by
  obtain ⟨A, x, e⟩ := snoc_form g b1
  obtain ⟨y, C, f⟩ := cons_form b2 g
  have l := h.lk
  have e2 : g :: (b1 ++ p :: b2) ++ [g] = A ++ x :: p :: y :: C := by
    rw [← List.cons_append, e, ← f]; simp
  rw [e2] at l
  obtain ⟨l1, l2⟩ := (Links.app A x _).1 l
  exact ⟨by rw [l2.1.2, e]; simp, by rw [l2.2.1.1, f]; simp⟩
theorem RingL.leave {nx pv : Nat → Nat} {g p : Nat} {b1 b2 : List Nat} (h : RingL nx pv g (b1 ++ p :: b2)) :
    RingL (upd nx (pv p) (nx p)) (upd pv (nx p) (pv p)) g (b1 ++ b2) := by
  obtain ⟨A, x, e⟩ := snoc_form g b1
  obtain ⟨y, C, f⟩ := cons_form b2 g
  have l := h.lk
  have nd := h.nd
  have e2 : g :: (b1 ++ p :: b2) ++ [g] = A ++ x :: p :: y :: C := by
    rw [← List.cons_append, e, ← f]; simp
  rw [e2] at l
  obtain ⟨l1, l2⟩ := (Links.app A x _).1 l
  have hx : pv p = x := l2.1.2
  have hy : nx p = y := l2.2.1.1
  rw [hx, hy]
  simp only [List.nodup_cons, List.mem_append, List.mem_cons, not_or, List.nodup_append] at nd
  obtain ⟨⟨g1, g2, g3⟩, n1, ⟨n2, n3⟩, n4⟩ := nd
  have xin : x ∈ g :: b1 := by rw [e]; simp
  have yin : y ∈ b2 ++ [g] := by rw [f]; simp
  refine ⟨?_, ?_⟩
  · simp only [List.nodup_cons, List.mem_append, not_or, List.nodup_append]
    exact ⟨⟨g1, g3⟩, n1, n3, fun a ha b hb => n4 a ha b (.inr hb)⟩
  · have e3 : g :: (b1 ++ b2) ++ [g] = A ++ x :: y :: C := by
      rw [← List.cons_append, e, ← f]; simp
    rw [e3]
    have nA : (A ++ [x]).Nodup := by rw [← e]; exact List.nodup_cons.2 ⟨g1, n1⟩
    have nC : (y :: C).Nodup := by
      rw [← f, List.nodup_append]
      exact ⟨n3, by simp, fun a ha b hb => by simp at hb; subst hb; rintro rfl; exact g3 ha⟩
    refine (Links.app A x _).2 ⟨Links.mono _ l1 ?_, ⟨?_, ?_⟩, Links.mono _ l2.2.2 ?_⟩
    · intro a ha b hb hab
      have ha' : a ∈ A := by simpa using ha
      rw [← e] at hb
      have hb' : b ∈ b1 := by simpa using hb
      have ax : a ≠ x := (List.nodup_append.1 nA).2.2 a ha' x (by simp)
      have bY : b ≠ y := by
        rintro rfl
        rcases List.mem_append.1 yin with h | h
        · exact n4 b hb' b (.inr h) rfl
        · simp at h; subst h; exact g1 hb'
      exact ⟨by rw [upd_other ax]; exact hab.1, by rw [upd_other bY]; exact hab.2⟩
    · rw [upd_same]
    · rw [upd_same]
    · intro a ha b hb hab
      rw [← f] at ha
      have ha' : a ∈ b2 := by simpa using ha
      have hb' : b ∈ C := by simpa using hb
      have ax : a ≠ x := by
        rintro rfl
        rcases List.mem_cons.1 xin with h | h
        · subst h; exact g3 ha'
        · exact n4 a h a (.inr ha') rfl
      have bY : b ≠ y := by rintro rfl; exact (List.nodup_cons.1 nC).1 hb'
      exact ⟨by rw [upd_other ax]; exact hab.1, by rw [upd_other bY]; exact hab.2⟩
/-- going round -/
theorem RingL.first {nx pv : Nat → Nat} {g : Nat} {bs : List Nat} (h : RingL nx pv g bs) : nx g = (bs ++ [g]).headD g := by
  have := h.lk
  cases bs with
  | nil => exact this.1.1
  | cons b r => exact this.1.1
theorem RingL.next {nx pv : Nat → Nat} {g : Nat} {bs : List Nat} (h : RingL nx pv g bs) {i b c : Nat} (hb : bs[i]? = some b) (hc : (bs ++ [g])[i + 1]? = some c) : nx b = c := by
  have hi := (List.getElem?_eq_some_iff.1 hb).1
  exact (Links.at _ h.lk (i + 1) b c (by simp only [List.cons_append, List.getElem?_cons_succ]; rw [List.getElem?_append_left hi]; exact hb) (by simpa using hc)).1
end Go.Proofs.YtlacligofhinmaaGreat

namespace Go.Proofs.YtlacligofhinmaaGreat.I
open Go.RowKit Go.Maps
set_option linter.unusedVariables false
set_option linter.unusedSimpArgs false
set_option maxRecDepth 100000

abbrev TPl : TypeId := 170
abbrev TOrd : TypeId := 173
abbrev TKey : TypeId := 3
abbrev TMp : TypeId := 171
abbrev TPt : TypeId := 168
/-- a key, and a key that can be -/
abbrev kv (k : Int) : Value := .int .i64 k
abbrev kl (k : Int) : Lit := .int .i64 k
abbrev wfK (k : Int) : Prop := (Lit.int .i64 k).wf = true
theorem keyed : Keyed Tryz.prog TKey := int_keyed Tryz.underlying3
theorem keyAt {k : Int} (h : wfK k) : keyOf Tryz.prog TKey (kv k) = some (kl k) := keyOf_int_mk Tryz.underlying3 h
theorem kl_inj {k k' : Int} (h : kl k = kl k') : k = k' := by simpa [kl] using h

/-- an element of the map: a pointer to a place -/
def ptrE : Value → Option (DataW Unit × List MemPlace)
  | .pointer none => some (.nil, [])
  | .pointer (some ⟨b, 0, none⟩) => some (.lit (.int .i64 b), [])
  | _ => none
theorem ptrE_nil {v : Value} {ps : List MemPlace} (h : ptrE v = some (.nil, ps)) : v = .pointer none := by
  unfold ptrE at h
  split at h
  · rfl
  · simp at h
  · cases h
theorem ptrE_some {v : Value} {b : Nat} {ps : List MemPlace} (h : ptrE v = some (.lit (.int .i64 b), ps)) : v = .pointer (some ⟨b, 0, none⟩) := by
  unfold ptrE at h
  split at h
  · simp at h
  · simp only [Option.some.injEq, Prod.mk.injEq, DataW.lit.injEq, Lit.int.injEq] at h
    obtain ⟨⟨_, h⟩, _⟩ := h
    have : ‹Nat› = b := by omega
    subst this; rfl
  · cases h

structure Ent where
  key : Int
  pins : Nat
  blk : Nat
def plc (k : Int) (pins o n : Nat) : Obj := .cells #[kv k, .int .i64 pins, .pointer (some ⟨o, 0, none⟩), .pointer (some ⟨n, 0, none⟩)] TPl (0, 0)
def fp (bo bm g : Nat) (L : List Ent) : List Nat := bo :: bm :: g :: L.map (·.blk)
/-- what is told of the map -/
structure MapOk (L : List Ent) (D : DataW Unit) : Prop where
  at_ : ∀ e ∈ L, D.atKey (kl e.key) .nil = .lit (.int .i64 e.blk)
  has_ : ∀ e ∈ L, Maps.has D (kl e.key) = true
  no : ∀ k, (∀ e ∈ L, e.key ≠ k) → Maps.has D (kl k) = false
  size : Maps.size D = L.length
/-- an order in memory -/
structure RO (w : World) (bo bm g : Nat) (L : List Ent) : Prop where
  ord : w.heap[bo]? = some (.cells #[.map (some bm), .pointer (some ⟨g, 0, none⟩)] TOrd (0, 0))
  rg : ∃ nx pv, RingL nx pv g (L.map (·.blk)) ∧ w.heap[g]? = some (plc 0 0 (pv g) (nx g)) ∧ ∀ e ∈ L, w.heap[e.blk]? = some (plc e.key e.pins (pv e.blk) (nx e.blk))
  mp : ∃ n D, w.ownsMap Tryz.prog TKey ptrE bm n D ∧ MapOk L D
  kd : (L.map (·.key)).Nodup
  wf : ∀ e ∈ L, wfK e.key
  pm : ∀ e ∈ L, e.pins ≤ 2147483647

/-- all is as it was but for some blocks -/
structure Kp (w w' : World) (F : List Nat) : Prop where
  os : w'.os = w.os
  tape : w'.tape = w.tape
  output : w'.output = w.output
  size : w.heap.size ≤ w'.heap.size
  block : ∀ i, i < w.heap.size → i ∉ F → w'.heap[i]? = w.heap[i]?
theorem Kp.refl (w : World) (F : List Nat) : Kp w w F := ⟨rfl, rfl, rfl, Nat.le_refl _, fun _ _ _ => rfl⟩
theorem Kp.trans {w w1 w2 : World} {F F' : List Nat} (h : Kp w w1 F) (h' : Kp w1 w2 F') (hF : ∀ i ∈ F', i ∈ F ∨ w.heap.size ≤ i) : Kp w w2 F :=
  ⟨h'.os.trans h.os, h'.tape.trans h.tape, h'.output.trans h.output, Nat.le_trans h.size h'.size, fun i hi hn => (h'.block i (Nat.lt_of_lt_of_le hi h.size) (fun hm => (hF i hm).elim hn (fun h => by omega))).trans (h.block i hi hn)⟩
theorem Kp.below {w w' : World} {F : List Nat} {B : Nat} (h : Kp w w' F) (hB : ∀ i ∈ F, B ≤ i) (hw : B ≤ w.heap.size) : Below B w w' :=
  ⟨h.os, h.tape, h.output, h.size, fun i hi => h.block i (by omega) (fun hm => by have := hB i hm; omega)⟩
theorem Kp.of_below {w w' : World} (h : Below w.heap.size w w') (F : List Nat) : Kp w w' F := ⟨h.os, h.tape, h.output, h.size, fun i hi _ => h.block i hi⟩
theorem RO.lt {w : World} {bo bm g : Nat} {L : List Ent} (h : RO w bo bm g L) : ∀ i ∈ fp bo bm g L, i < w.heap.size := by
  intro i hi
  simp only [fp, List.mem_cons, List.mem_map] at hi
  obtain ⟨nx, pv, hr, hg, hp⟩ := h.rg
  obtain ⟨n, D, hm, _⟩ := h.mp
  rcases hi with rfl | rfl | rfl | ⟨e, he, rfl⟩
  · exact (Array.getElem?_eq_some_iff.1 h.ord).1
  · exact hm.lt
  · exact (Array.getElem?_eq_some_iff.1 hg).1
  · exact (Array.getElem?_eq_some_iff.1 (hp e he)).1
theorem ownsMap_block {w w' : World} {b n : Nat} {D : DataW Unit} (h : w.ownsMap Tryz.prog TKey ptrE b n D) (hb : w'.heap[b]? = w.heap[b]?) : w'.ownsMap Tryz.prog TKey ptrE b n D := by
  obtain ⟨es, clock, h1, h2, h3, h4⟩ := h
  exact ⟨es, clock, hb.trans h1, h2, h3, h4⟩
theorem RO.same {w w' : World} {bo bm g : Nat} {L : List Ent} (h : RO w bo bm g L) (hs : ∀ i ∈ fp bo bm g L, w'.heap[i]? = w.heap[i]?) : RO w' bo bm g L := by
  obtain ⟨nx, pv, hr, hg, hp⟩ := h.rg
  obtain ⟨n, D, hm, ho⟩ := h.mp
  refine ⟨(hs bo (by simp [fp])).trans h.ord, ⟨nx, pv, hr, (hs g (by simp [fp])).trans hg, fun e he => (hs e.blk (by simp only [fp, List.mem_cons, List.mem_map]; exact .inr (.inr (.inr ⟨e, he, rfl⟩)))).trans (hp e he)⟩, ⟨n, D, ownsMap_block hm (hs bm (by simp [fp])), ho⟩, h.kd, h.wf, h.pm⟩
theorem RO.kept {w w' : World} {bo bm g : Nat} {L : List Ent} {F : List Nat} (h : RO w bo bm g L) (hk : Kp w w' F) (hd : ∀ i ∈ fp bo bm g L, i ∉ F) : RO w' bo bm g L :=
  h.same fun i hi => hk.block i (h.lt i hi) (hd i hi)
theorem RO.later {w w' : World} {bo bm g : Nat} {L : List Ent} (h : RO w bo bm g L) (hb : Below w.heap.size w w') : RO w' bo bm g L :=
  h.same fun i hi => hb.block i (h.lt i hi)
/-- the count is the size -/
theorem ownsMap_tight {w : World} {b n : Nat} {D : DataW Unit} (h : w.ownsMap Tryz.prog TKey ptrE b n D) : w.ownsMap Tryz.prog TKey ptrE b (Maps.size D) D := by
  obtain ⟨es, clock, h1, h2, h3, h4⟩ := h
  refine ⟨es, clock, h1, h2, ?_, h4⟩
  rw [h4, Maps.size_eq, length_read]
  exact Nat.le_refl _
theorem cell_of {w : World} {b j : Nat} {cs : Array Value} {T : TypeId} (h : w.heap[b]? = some (.cells cs T (0, 0))) : w.cell? ⟨b, j, none⟩ = cs[j]? := by
  unfold World.cell?; rw [h]; simp
theorem frozen_of {w : World} {b j : Nat} {cs : Array Value} {T : TypeId} (h : w.heap[b]? = some (.cells cs T (0, 0))) : w.frozen? ⟨b, j, none⟩ = false := by
  unfold World.frozen?; rw [h]; simp
end Go.Proofs.YtlacligofhinmaaGreat.I

namespace Go.Proofs.YtlacligofhinmaaGreat.I
open Go.RowKit Go.Maps
attribute [local go_sem] Oper.semAt_some
set_option linter.unusedVariables false
set_option linter.unusedSimpArgs false
set_option maxRecDepth 100000

theorem usable_nil (w : World) : Calls Tryz.prog 160 #[.pointer none] w fun e w' => e = .returned (.bool false) ∧ w' = w := by
  go_enter Tryz.func160, Tryz.ntmps160
  go_wp2
  go_ret
  exact ⟨rfl, rfl⟩
theorem neq_nil (w : World) : (binOp .neq TMp (.map none) (.map none)).run Tryz.prog w = .ok (.bool false) w := rfl
theorem neq_some (w : World) (b : Nat) : (binOp .neq TMp (.map (some b)) (.map none)).run Tryz.prog w = .ok (.bool true) w := rfl
theorem usable_plain (b : Nat) (w : World) (h : w.cell? ⟨b, 0, none⟩ = some (.map none)) : Calls Tryz.prog 160 #[.pointer (some ⟨b, 0, none⟩)] w fun e w' => e = .returned (.bool false) ∧ w' = w := by
  have q := neq_nil
  go_enter Tryz.func160, Tryz.ntmps160
  go_wp2
  go_ret
  exact ⟨rfl, rfl⟩
theorem usable_any {w : World} {bo bm g : Nat} {L : List Ent} (h : RO w bo bm g L) : Calls Tryz.prog 160 #[.pointer (some ⟨bo, 0, none⟩)] w fun e w' => e = .returned (.bool true) ∧ w' = w := by
  have h0 : w.cell? ⟨bo, 0, none⟩ = some (.map (some bm)) := (cell_of h.ord).trans rfl
  have q := neq_some
  go_enter Tryz.func160, Tryz.ntmps160
  go_wp2
  go_ret
  exact ⟨rfl, rfl⟩

/-- where a key stands -/
def look : List Ent → Int → Value
  | [], _ => .pointer none
  | e :: L, k => if e.key = k then .pointer (some ⟨e.blk, 0, none⟩) else look L k
theorem look_mem {L : List Ent} {e : Ent} (he : e ∈ L) (hn : (L.map (·.key)).Nodup) : look L e.key = .pointer (some ⟨e.blk, 0, none⟩) := by
  induction L with
  | nil => cases he
  | cons x L ih =>
    simp only [List.map_cons, List.nodup_cons, List.mem_map, not_exists, not_and] at hn
    unfold look
    rcases List.mem_cons.1 he with rfl | h
    · simp
    · rw [if_neg (fun e' => hn.1 e h e'.symm)]; exact ih h hn.2
theorem look_no {L : List Ent} {k : Int} (h : ∀ e ∈ L, e.key ≠ k) : look L k = .pointer none := by
  induction L with
  | nil => rfl
  | cons x L ih =>
    unfold look
    rw [if_neg (h x (by simp))]
    exact ih fun e he => h e (by simp [he])

theorem find1_idle (w : World) : CallsD Tryz.prog 161 #[] .returning w fun e u' w' => e = .returned (.tuple #[]) ∧ u' = .returning ∧ w' = w := by
  refine callsD_of_wpS Tryz.func161 rfl fun c₀ cs hu => ?_
  apply wpS_region
  cases c₀
  simp_all [wpOpsS, go_sem, recoverD, hu, Tryz.ntmps161, Exit.thenS, bodyPostS, results, Tryz.results161]
theorem zeroPt (w : World) : (zeroValue TPt).run Tryz.prog w = .ok (.pointer none) w := by kernel_rfl
theorem look_run {w : World} {bo bm g : Nat} {L : List Ent} (h : RO w bo bm g L) {k : Int} (hk : wfK k) : (Instr.lookup TMp (.map (some bm)) (kv k) false).run Tryz.prog w = .ok (look L k) w := by
  obtain ⟨n, D, hm, ho⟩ := h.mp
  obtain ⟨v, ps, hr, hv⟩ := hm.lookup keyed Tryz.underlying171 (zeroPt w) (zd := .nil) (zp := []) rfl (keyAt hk)
  rw [hr]
  congr 1
  by_cases hin : ∃ e ∈ L, e.key = k
  · obtain ⟨e, he, rfl⟩ := hin
    rw [ho.at_ e he] at hv
    rw [look_mem he h.kd]
    exact ptrE_some hv
  · have hno : ∀ e ∈ L, e.key ≠ k := fun e he hk => hin ⟨e, he, hk⟩
    rw [atKey_of_not_has (ho.no k hno)] at hv
    rw [look_no hno]
    exact ptrE_nil hv
theorem find_no (p : Option Addr) (k : Value) (w : World) (h : Calls Tryz.prog 160 #[.pointer p] w fun e w' => e = .returned (.bool false) ∧ w' = w) :
    Calls Tryz.prog 121 #[.pointer p, k] w fun e w' => e = .returned (.tuple #[.pointer none, .bool false]) ∧ w' = w := by
  go_enter_defers Tryz.func121, Tryz.ntmps121
  go_wp2_with (go_at_call 160; refine h.mono ?_; rintro e w9 ⟨rfl, hw9⟩; rw [hw9]; clear hw9)
  simp [bodyPostD, Leaves, settle, results, Tryz.results121, go_sem]
theorem find_any {w : World} {bo bm g : Nat} {L : List Ent} (h : RO w bo bm g L) {k : Int} (hk : wfK k) :
    Calls Tryz.prog 121 #[.pointer (some ⟨bo, 0, none⟩), kv k] w fun e w' => e = .returned (.tuple #[look L k, .bool true]) ∧ w' = w := by
  have hmf : ∀ (fn : Fn) (first cap : Array Value) (w : World), (Instr.makeFunc fn first cap).run Tryz.prog w = .ok (.func fn first cap) w := fun _ _ _ _ => rfl
  have h0 : w.cell? ⟨bo, 0, none⟩ = some (.map (some bm)) := (cell_of h.ord).trans rfl
  have hlk := look_run h hk
  go_enter_defers Tryz.func121, Tryz.ntmps121
  go_wp2_with (go_at_call 160; refine (usable_any h).mono ?_; rintro e w9 ⟨rfl, hw9⟩; rw [hw9]; clear hw9)
  refine leaves_cons (f := 161) (args := #[]) (by simp) (by simp [go_sem]) ?_
  refine (find1_idle _).mono ?_
  rintro e u' w'' ⟨rfl, rfl, rfl⟩
  simp [Leaves, settle, results, Tryz.results121, go_sem]
end Go.Proofs.YtlacligofhinmaaGreat.I

namespace Go.Proofs.YtlacligofhinmaaGreat.I
open Go.RowKit Go.Maps
attribute [local go_sem] Oper.semAt_some
set_option linter.unusedVariables false
set_option linter.unusedSimpArgs false
set_option maxRecDepth 100000

theorem plc_o {w : World} {c : Nat} {k : Int} {n : Nat} {pv nx : Nat → Nat} (h : w.heap[c]? = some (plc k n (pv c) (nx c))) (a b : Nat) : (w.setCell ⟨a, 2, none⟩ (.pointer (some ⟨b, 0, none⟩))).heap[c]? = some (plc k n (upd pv a b c) (nx c)) := by
  by_cases e : c = a
  · subst e; rw [upd_same]; rw [heap_setCell_same _ _ _ _ _ _ h]; rfl
  · rw [heap_setCell_other _ _ _ _ e, upd_other e, h]
theorem plc_n {w : World} {c : Nat} {k : Int} {n : Nat} {pv nx : Nat → Nat} (h : w.heap[c]? = some (plc k n (pv c) (nx c))) (a b : Nat) : (w.setCell ⟨a, 3, none⟩ (.pointer (some ⟨b, 0, none⟩))).heap[c]? = some (plc k n (pv c) (upd nx a b c)) := by
  by_cases e : c = a
  · subst e; rw [upd_same]; rw [heap_setCell_same _ _ _ _ _ _ h]; rfl
  · rw [heap_setCell_other _ _ _ _ e, upd_other e, h]
theorem Kp.set {w w' : World} {F : List Nat} (h : Kp w w' F) {a : Addr} (ha : a.block ∈ F ∨ w.heap.size ≤ a.block) (v : Value) : Kp w (w'.setCell a v) F :=
  ⟨h.os, h.tape, h.output, by rw [World.size_setCell]; exact h.size, fun i hi hn => by rw [heap_setCell_other _ _ _ _ (fun e => by subst e; exact ha.elim (fun h => hn h) (fun h => by omega))]; exact h.block i hi hn⟩

theorem Kp.drew {w w' : World} {F : List Nat} (h : Kp w w' F) : Kp w w'.drew F := ⟨h.os, h.tape, h.output, h.size, h.block⟩
/-- the ring alone -/
def Rg (w : World) (g : Nat) (L : List Ent) : Prop := ∃ nx pv, RingL nx pv g (L.map (·.blk)) ∧ w.heap[g]? = some (plc 0 0 (pv g) (nx g)) ∧ ∀ e ∈ L, w.heap[e.blk]? = some (plc e.key e.pins (pv e.blk) (nx e.blk))

theorem enter_run {w : World} {p g o : Nat} {c0 c1 a b : Value} {k : Int} {n x : Nat} (hp : w.heap[p]? = some (.cells #[c0, c1, a, b] TPl (0, 0))) (hg : w.heap[g]? = some (plc k n o x)) (hpg : p ≠ g) (ho : ∃ k' n' o' x', w.heap[o]? = some (plc k' n' o' x')) (hop : o ≠ p) :
    Calls Tryz.prog 123 #[.pointer (some ⟨p, 0, none⟩), .pointer (some ⟨g, 0, none⟩)] w fun e w' => e = .returned (.tuple #[]) ∧ w' = ((((w.setCell ⟨p, 2, none⟩ (.pointer (some ⟨o, 0, none⟩))).setCell ⟨p, 3, none⟩ (.pointer (some ⟨g, 0, none⟩))).setCell ⟨o, 3, none⟩ (.pointer (some ⟨p, 0, none⟩))).setCell ⟨g, 2, none⟩ (.pointer (some ⟨p, 0, none⟩))) := by
  have p2 : w.cell? ⟨p, 2, none⟩ = some a := (cell_of hp).trans rfl
  have p3 : w.cell? ⟨p, 3, none⟩ = some b := (cell_of hp).trans rfl
  have pf2 : w.frozen? ⟨p, 2, none⟩ = false := frozen_of hp
  have pf3 : w.frozen? ⟨p, 3, none⟩ = false := frozen_of hp
  have g2 : w.cell? ⟨g, 2, none⟩ = some (.pointer (some ⟨o, 0, none⟩)) := (cell_of hg).trans rfl
  have gf2 : w.frozen? ⟨g, 2, none⟩ = false := frozen_of hg
  obtain ⟨k', n', o', x', ho⟩ := ho
  have o3 : w.cell? ⟨o, 3, none⟩ = some (.pointer (some ⟨x', 0, none⟩)) := (cell_of ho).trans rfl
  have of3 : w.frozen? ⟨o, 3, none⟩ = false := frozen_of ho
  have gp : g ≠ p := fun e => hpg e.symm
  clear hp hg ho
  go_enter Tryz.func123, Tryz.ntmps123
  go_wp2
  go_end0
  exact ⟨rfl, rfl⟩
theorem enter_any {w : World} {p g : Nat} {L : List Ent} {k : Int} {n : Nat} {a b : Value} (hr : Rg w g L) (hp : w.heap[p]? = some (.cells #[kv k, .int .i64 n, a, b] TPl (0, 0))) (hn : p ∉ g :: L.map (·.blk)) :
    Calls Tryz.prog 123 #[.pointer (some ⟨p, 0, none⟩), .pointer (some ⟨g, 0, none⟩)] w fun e w' => e = .returned (.tuple #[]) ∧ Rg w' g (L ++ [⟨k, n, p⟩]) ∧ Kp w w' (p :: g :: L.map (·.blk)) := by
  obtain ⟨nx, pv, rl, hg, hL⟩ := hr
  have hpg : p ≠ g := fun e => hn (by simp [e])
  have ho := rl.pvg
  have hall : ∀ c ∈ g :: L.map (·.blk), ∃ k' n', w.heap[c]? = some (plc k' n' (pv c) (nx c)) := by
    intro c hc
    rcases List.mem_cons.1 hc with rfl | hc
    · exact ⟨_, _, hg⟩
    · obtain ⟨e, he, rfl⟩ := List.mem_map.1 hc
      exact ⟨_, _, hL e he⟩
  obtain ⟨k', n', hpo⟩ := hall _ ho
  refine (enter_run hp hg hpg ⟨_, _, _, _, hpo⟩ (fun e => hn (e ▸ ho))).mono ?_
  rintro e w' ⟨rfl, rfl⟩
  refine ⟨rfl, ⟨_, _, by rw [List.map_append]; exact rl.enter hn, ?_, ?_⟩, ?_⟩
  · have h1 : ((w.setCell ⟨p, 2, none⟩ (.pointer (some ⟨pv g, 0, none⟩))).setCell ⟨p, 3, none⟩ (.pointer (some ⟨g, 0, none⟩))).heap[g]? = some (plc 0 0 (upd pv p (pv g) g) (upd nx p g g)) := plc_n (pv := upd pv p (pv g)) (plc_o hg _ _) _ _
    exact plc_o (nx := upd (upd nx p g) (pv g) p) (plc_n (pv := upd pv p (pv g)) h1 _ _) _ _
  · intro e he
    rcases List.mem_append.1 he with he | he
    · have h1 : ((w.setCell ⟨p, 2, none⟩ (.pointer (some ⟨pv g, 0, none⟩))).setCell ⟨p, 3, none⟩ (.pointer (some ⟨g, 0, none⟩))).heap[e.blk]? = some (plc e.key e.pins (upd pv p (pv g) e.blk) (upd nx p g e.blk)) := plc_n (pv := upd pv p (pv g)) (plc_o (hL e he) _ _) _ _
      exact plc_o (nx := upd (upd nx p g) (pv g) p) (plc_n (pv := upd pv p (pv g)) h1 _ _) _ _
    · simp only [List.mem_singleton] at he
      subst he
      have h0 : (w.setCell ⟨p, 2, none⟩ (.pointer (some ⟨pv g, 0, none⟩))).heap[p]? = some (.cells #[kv k, .int .i64 n, .pointer (some ⟨pv g, 0, none⟩), b] TPl (0, 0)) := by rw [heap_setCell_same _ _ _ _ _ _ hp]; rfl
      have h1 : ((w.setCell ⟨p, 2, none⟩ (.pointer (some ⟨pv g, 0, none⟩))).setCell ⟨p, 3, none⟩ (.pointer (some ⟨g, 0, none⟩))).heap[p]? = some (plc k n (upd pv p (pv g) p) (upd nx p g p)) := by rw [heap_setCell_same _ _ _ _ _ _ h0, upd_same, upd_same]; rfl
      exact plc_o (nx := upd (upd nx p g) (pv g) p) (plc_n (pv := upd pv p (pv g)) h1 _ _) _ _
  · exact ((((Kp.refl w _).set (.inl (by simp)) _).set (.inl (by simp)) _).set (.inl (List.mem_cons_of_mem _ ho)) _).set (.inl (by simp)) _

theorem leave_run {w : World} {p x y : Nat} {k : Int} {n : Nat} (hp : w.heap[p]? = some (plc k n x y)) (hx : ∃ k' n' o' x', w.heap[x]? = some (plc k' n' o' x')) (hy : ∃ k' n' o' x', w.heap[y]? = some (plc k' n' o' x')) (hxp : x ≠ p) (hyp : y ≠ p) :
    Calls Tryz.prog 122 #[.pointer (some ⟨p, 0, none⟩)] w fun e w' => e = .returned (.tuple #[]) ∧ w' = ((w.setCell ⟨x, 3, none⟩ (.pointer (some ⟨y, 0, none⟩))).setCell ⟨y, 2, none⟩ (.pointer (some ⟨x, 0, none⟩))).drew := by
  have p2 : w.cell? ⟨p, 2, none⟩ = some (.pointer (some ⟨x, 0, none⟩)) := (cell_of hp).trans rfl
  have p3 : w.cell? ⟨p, 3, none⟩ = some (.pointer (some ⟨y, 0, none⟩)) := (cell_of hp).trans rfl
  obtain ⟨k', n', o', x', hx⟩ := hx
  have x3 : w.cell? ⟨x, 3, none⟩ = some (.pointer (some ⟨x', 0, none⟩)) := (cell_of hx).trans rfl
  have xf3 : w.frozen? ⟨x, 3, none⟩ = false := frozen_of hx
  obtain ⟨k2, n2, o2, x2, hy⟩ := hy
  have y2 : w.cell? ⟨y, 2, none⟩ = some (.pointer (some ⟨o2, 0, none⟩)) := (cell_of hy).trans rfl
  have yf2 : w.frozen? ⟨y, 2, none⟩ = false := frozen_of hy
  clear hp hx hy
  go_enter Tryz.func122, Tryz.ntmps122
  go_wp2
  go_region
  all_goals go_wp2
  all_goals go_end0
  all_goals exact ⟨rfl, rfl⟩
theorem leave_any {w : World} {g : Nat} {L1 L2 : List Ent} {e : Ent} (hr : Rg w g (L1 ++ e :: L2)) :
    Calls Tryz.prog 122 #[.pointer (some ⟨e.blk, 0, none⟩)] w fun r w' => r = .returned (.tuple #[]) ∧ Rg w' g (L1 ++ L2) ∧ (∃ a b, w'.heap[e.blk]? = some (.cells #[kv e.key, .int .i64 e.pins, a, b] TPl (0, 0))) ∧ Kp w w' (g :: (L1 ++ L2).map (·.blk)) := by
  obtain ⟨nx, pv, rl, hg, hL⟩ := hr
  have hall : ∀ c ∈ g :: (L1 ++ e :: L2).map (·.blk), ∃ k' n' o' x', w.heap[c]? = some (plc k' n' o' x') := by
    intro c hc
    rcases List.mem_cons.1 hc with rfl | hc
    · exact ⟨_, _, _, _, hg⟩
    · obtain ⟨e, he, rfl⟩ := List.mem_map.1 hc
      exact ⟨_, _, _, _, hL e he⟩
  rw [List.map_append, List.map_cons] at rl
  obtain ⟨hx, hy⟩ := rl.mid
  have nd := rl.nd
  simp only [List.nodup_cons, List.mem_append, List.mem_cons, not_or, List.nodup_append] at nd
  obtain ⟨⟨g1, g2, g3⟩, n1, ⟨n2, n3⟩, n4⟩ := nd
  have hxp : pv e.blk ≠ e.blk := by
    intro h
    rw [h] at hx
    rcases List.mem_cons.1 hx with h | h
    · exact g2 h.symm
    · exact n4 _ h _ (.inl rfl) rfl
  have hyp : nx e.blk ≠ e.blk := by
    intro h
    rw [h] at hy
    rcases List.mem_append.1 hy with h | h
    · exact n2 h
    · simp only [List.mem_singleton] at h; exact g2 h.symm
  have hx' : pv e.blk ∈ g :: (L1 ++ L2).map (·.blk) := by
    rw [List.map_append]; rcases List.mem_cons.1 hx with h | h
    · rw [h]; simp
    · exact List.mem_cons_of_mem _ (List.mem_append_left _ h)
  have hy' : nx e.blk ∈ g :: (L1 ++ L2).map (·.blk) := by
    rw [List.map_append]; rcases List.mem_append.1 hy with h | h
    · exact List.mem_cons_of_mem _ (List.mem_append_right _ h)
    · simp only [List.mem_singleton] at h; rw [h]; simp
  have hsub : ∀ c ∈ g :: (L1 ++ L2).map (·.blk), c ∈ g :: (L1 ++ e :: L2).map (·.blk) := by
    intro c hc
    simp only [List.map_append, List.map_cons, List.mem_cons, List.mem_append] at hc ⊢
    rcases hc with h | h | h
    · exact .inl h
    · exact .inr (.inl h)
    · exact .inr (.inr (.inr h))
  refine (leave_run (hL e (by simp)) (hall _ (hsub _ hx')) (hall _ (hsub _ hy')) hxp hyp).mono ?_
  rintro r w' ⟨rfl, rfl⟩
  refine ⟨rfl, ⟨_, _, by rw [List.map_append]; exact rl.leave, ?_, ?_⟩, ⟨.pointer (some ⟨pv e.blk, 0, none⟩), .pointer (some ⟨nx e.blk, 0, none⟩), ?_⟩, ?_⟩
  · exact plc_o (nx := upd nx (pv e.blk) (nx e.blk)) (plc_n hg _ _) _ _
  · intro c hc
    exact plc_o (nx := upd nx (pv e.blk) (nx e.blk)) (plc_n (hL c (by rcases List.mem_append.1 hc with h | h <;> simp [h])) _ _) _ _
  · show ((w.setCell ⟨pv e.blk, 3, none⟩ (.pointer (some ⟨nx e.blk, 0, none⟩))).setCell ⟨nx e.blk, 2, none⟩ (.pointer (some ⟨pv e.blk, 0, none⟩))).heap[e.blk]? = _
    rw [heap_setCell_other _ _ _ _ (fun h => hyp h.symm), heap_setCell_other _ _ _ _ (fun h => hxp h.symm)]; exact hL e (by simp)
  · exact (((Kp.refl w _).set (.inl hx') _).set (.inl hy') _).drew
end Go.Proofs.YtlacligofhinmaaGreat.I

namespace Go.Proofs.YtlacligofhinmaaGreat.I
open Go.RowKit Go.Maps
attribute [local go_sem] Oper.semAt_some
set_option linter.unusedVariables false
set_option linter.unusedSimpArgs false
set_option maxRecDepth 100000

theorem MapOk.same {L L' : List Ent} {D : DataW Unit} (h : MapOk L D) (h1 : ∀ e ∈ L', ∃ e' ∈ L, e'.key = e.key ∧ e'.blk = e.blk) (h2 : ∀ e ∈ L, ∃ e' ∈ L', e'.key = e.key) (hl : L'.length = L.length) : MapOk L' D :=
  ⟨fun e he => by obtain ⟨e', he', hk, hb⟩ := h1 e he; rw [← hk, ← hb]; exact h.at_ e' he',
   fun e he => by obtain ⟨e', he', hk, hb⟩ := h1 e he; rw [← hk]; exact h.has_ e' he',
   fun k hk => h.no k fun e he => by obtain ⟨e', he', hk'⟩ := h2 e he; rw [← hk']; exact hk e' he',
   h.size.trans hl.symm⟩
theorem MapOk.put {L : List Ent} {D : DataW Unit} (h : MapOk L D) (hm : IsMap D) (ht : Tidy D) {k : Int} (hk : wfK k) (hn : ∀ e ∈ L, e.key ≠ k) (n p : Nat) : MapOk (L ++ [⟨k, n, p⟩]) (D.put (kl k) (.lit (.int .i64 p))) := by
  have hl := keyed.key (keyAt hk)
  refine ⟨fun e he => ?_, fun e he => ?_, fun k' hk' => ?_, ?_⟩
  · rcases List.mem_append.1 he with he | he
    · rw [atKey_put_other (fun e' => hn e he (kl_inj e'))]; exact h.at_ e he
    · simp only [List.mem_singleton] at he; subst he; exact atKey_put_same hm hl _ _
  · rcases List.mem_append.1 he with he | he
    · rw [has_put_other (fun e' => hn e he (kl_inj e'))]; exact h.has_ e he
    · simp only [List.mem_singleton] at he; subst he; exact has_put_same hm hl _
  · have h0 : k ≠ k' := hk' ⟨k, n, p⟩ (by simp)
    rw [has_put_other (fun e' => h0 (kl_inj e').symm)]
    exact h.no k' fun e he => hk' e (by simp [he])
  · rw [size_put ht, h.no k hn, h.size]; simp
theorem MapOk.del {L1 L2 : List Ent} {e : Ent} {D : DataW Unit} (h : MapOk (L1 ++ e :: L2) D) (ht : Tidy D) (hd : ((L1 ++ e :: L2).map (·.key)).Nodup) : MapOk (L1 ++ L2) (D.del (kl e.key)) := by
  have hne : ∀ x ∈ L1 ++ L2, x.key ≠ e.key := by
    intro x hx he
    simp only [List.map_append, List.map_cons, List.nodup_append, List.nodup_cons, List.mem_map, List.mem_cons] at hd
    obtain ⟨_, ⟨h2, _⟩, h3⟩ := hd
    rcases List.mem_append.1 hx with hx | hx
    · exact h3 _ ⟨x, hx, rfl⟩ _ (.inl rfl) he
    · exact h2 ⟨x, hx, he⟩
  have hin : ∀ x ∈ L1 ++ L2, x ∈ L1 ++ e :: L2 := fun x hx => by rcases List.mem_append.1 hx with h | h <;> simp [h]
  refine ⟨fun x hx => ?_, fun x hx => ?_, fun k hk => ?_, ?_⟩
  · rw [atKey_del_other (fun e' => hne x hx (kl_inj e'))]; exact h.at_ x (hin x hx)
  · rw [has_del_other (fun e' => hne x hx (kl_inj e'))]; exact h.has_ x (hin x hx)
  · by_cases hke : kl k = kl e.key
    · rw [hke]; exact has_del_same
    · rw [has_del_other hke]
      exact h.no k fun x hx => by
        rcases List.mem_append.1 hx with hx | hx
        · exact hk x (by simp [hx])
        · rcases List.mem_cons.1 hx with rfl | hx
          · exact fun e' => hke (by rw [e'])
          · exact hk x (by simp [hx])
  · have := size_del (k := kl e.key) ht
    rw [h.has_ e (by simp), h.size] at this
    simp at this ⊢
    omega

theorem RO.ring {w : World} {bo bm g : Nat} {L : List Ent} (h : RO w bo bm g L) : Rg w g L := h.rg
theorem RO.gap {w : World} {bo bm g : Nat} {L : List Ent} (h : RO w bo bm g L) : w.cell? ⟨bo, 1, none⟩ = some (.pointer (some ⟨g, 0, none⟩)) := (cell_of h.ord).trans rfl
theorem RO.map0 {w : World} {bo bm g : Nat} {L : List Ent} (h : RO w bo bm g L) : w.cell? ⟨bo, 0, none⟩ = some (.map (some bm)) := (cell_of h.ord).trans rfl
/-- the order's own block, the map's and the places' are apart -/
theorem RO.apart {w : World} {bo bm g : Nat} {L : List Ent} (h : RO w bo bm g L) : bo ≠ bm ∧ (∀ c ∈ g :: L.map (·.blk), c ≠ bo ∧ c ≠ bm) := by
  obtain ⟨nx, pv, rl, hg, hL⟩ := h.rg
  obtain ⟨n, D, ⟨es, clock, hm, _⟩, _⟩ := h.mp
  have hall : ∀ c ∈ g :: L.map (·.blk), ∃ k' n' o' x', w.heap[c]? = some (plc k' n' o' x') := by
    intro c hc
    rcases List.mem_cons.1 hc with rfl | hc
    · exact ⟨_, _, _, _, hg⟩
    · obtain ⟨e, he, rfl⟩ := List.mem_map.1 hc
      exact ⟨_, _, _, _, hL e he⟩
  refine ⟨fun e => ?_, fun c hc => ⟨fun e => ?_, fun e => ?_⟩⟩
  · have := h.ord; rw [e, hm] at this; cases this
  · obtain ⟨_, _, _, _, h1⟩ := hall c hc
    rw [e, h.ord] at h1; simp [plc, TOrd, TPl] at h1
  · obtain ⟨_, _, _, _, h1⟩ := hall c hc
    rw [e, hm] at h1; simp [plc] at h1
theorem Kp.sub {w w' : World} {F F' : List Nat} (h : Kp w w' F) (hs : ∀ i ∈ F, i ∈ F' ∨ w.heap.size ≤ i) : Kp w w' F' :=
  ⟨h.os, h.tape, h.output, h.size, fun i hi hn => h.block i hi fun hm => (hs i hm).elim hn fun h => by omega⟩
theorem Kp.alloc (w : World) (o : Obj) (F : List Nat) : Kp w (w.alloc o) F := Kp.of_below ((Below.refl _ w).alloc (Nat.le_refl _) o) F
theorem Kp.grown {w w' w'' : World} {F : List Nat} {b : Nat} (h : Kp w w' F) (hg : w'.grownBy w'' (some b)) (hb : b ∈ F) : Kp w w'' F :=
  ⟨hg.os.trans h.os, hg.tape.trans h.tape, hg.output.trans h.output, Nat.le_trans h.size hg.size, fun i hi hn => (hg.block i (Nat.lt_of_lt_of_le hi h.size) (fun e => by cases e; exact hn hb)).trans (h.block i hi hn)⟩

theorem add_old {w : World} {bo bm g : Nat} {L : List Ent} (h : RO w bo bm g L) {e : Ent} (he : e ∈ L) :
    Calls Tryz.prog 100 #[.pointer (some ⟨bo, 0, none⟩), kv e.key] w fun r w' => r = .returned (.bool false) ∧ w' = w := by
  have hf := find_any h (h.wf e he)
  rw [look_mem he h.kd] at hf
  go_enter Tryz.func100, Tryz.ntmps100
  go_wp2_with (go_at_call 121; refine hf.mono ?_; rintro e w9 ⟨rfl, hw9⟩; rw [hw9]; clear hw9)
  go_ret
  exact ⟨rfl, rfl⟩
/-- what an action leaves of an order: the blocks are its own or new -/
structure Act (w w' : World) (bo bm g : Nat) (L L' : List Ent) : Prop where
  ro : RO w' bo bm g L'
  kp : Kp w w' (fp bo bm g L)
  sub : ∀ i ∈ fp bo bm g L', i ∈ fp bo bm g L ∨ w.heap.size ≤ i
theorem Act.refl {w : World} {bo bm g : Nat} {L : List Ent} (h : RO w bo bm g L) : Act w w bo bm g L L := ⟨h, Kp.refl _ _, fun _ h => .inl h⟩
theorem nd_snoc {L : List Ent} {k : Int} {n p : Nat} (h : (L.map (·.key)).Nodup) (hn : ∀ e ∈ L, e.key ≠ k) : ((L ++ [(⟨k, n, p⟩ : Ent)]).map (·.key)).Nodup := by
  rw [List.map_append, List.nodup_append]
  refine ⟨h, by simp, ?_⟩
  intro a ha b hb
  simp at hb; subst hb
  obtain ⟨e, he, rfl⟩ := List.mem_map.1 ha
  exact hn e he

set_option maxHeartbeats 2000000 in
theorem add_new {w : World} {bo bm g : Nat} {L : List Ent} (h : RO w bo bm g L) {k : Int} (hk : wfK k) (hn : ∀ e ∈ L, e.key ≠ k) (hl : L.length < maxLen) :
    Calls Tryz.prog 100 #[.pointer (some ⟨bo, 0, none⟩), kv k] w fun r w' => r = .returned (.bool true) ∧ ∃ p, Act w w' bo bm g L (L ++ [⟨k, 0, p⟩]) := by
  have hf := find_any h hk
  rw [look_no hn] at hf
  have H : Hid (RO w bo bm g L) := h
  have hb1 : Below w.heap.size w (w.alloc (.cells #[kv k, .int .i64 0, .pointer none, .pointer none] TPl)) := (Below.refl _ w).alloc (Nat.le_refl _) _
  have H1 : Hid (RO (w.alloc (.cells #[kv k, .int .i64 0, .pointer none, .pointer none] TPl)) bo bm g L) := h.later hb1
  have hgap := H1.out.gap
  have hlt := h.lt
  have hap := h.apart
  have HE : Hid (Calls Tryz.prog 123 #[.pointer (some ⟨w.heap.size, 0, none⟩), .pointer (some ⟨g, 0, none⟩)] (w.alloc (.cells #[kv k, .int .i64 0, .pointer none, .pointer none] TPl)) fun e w' => e = .returned (.tuple #[]) ∧ Rg w' g (L ++ [⟨k, 0, w.heap.size⟩]) ∧ Kp w w' (g :: L.map (·.blk))) := by
    have hnew : w.heap.size ∉ g :: L.map (·.blk) := fun hm => by
      have := hlt w.heap.size (by simp only [fp]; exact List.mem_cons_of_mem _ (List.mem_cons_of_mem _ hm)); omega
    refine (enter_any (k := k) (n := 0) H1.out.ring (by rw [heap_alloc_new]; rfl) hnew).mono ?_
    rintro e w' ⟨he, hr, hk⟩
    exact ⟨he, hr, (Kp.alloc w _ (g :: L.map (·.blk))).trans (hk.sub (F' := w.heap.size :: g :: L.map (·.blk)) fun i hi => .inl hi) (fun i hi => by
      rcases List.mem_cons.1 hi with rfl | hi
      · exact .inr (Nat.le_refl _)
      · exact .inl hi)⟩
  obtain ⟨n, D, hm, ho⟩ := h.mp
  have ht := ownsMap_tight hm
  rw [ho.size] at ht
  have HF : Hid (∀ w', Kp w w' (g :: L.map (·.blk)) → w'.cell? ⟨bo, 0, none⟩ = some (.map (some bm)) ∧ w'.ownsMap Tryz.prog TKey ptrE bm L.length D) := fun w' hk' => by
    have hb := hk'.block bo (hlt bo (by simp [fp])) (fun hm => (hap.2 bo hm).1 rfl)
    have hb2 := hk'.block bm (hlt bm (by simp [fp])) (fun hm => (hap.2 bm hm).2 rfl)
    exact ⟨(cell_of (hb.trans h.ord)).trans rfl, ownsMap_block ht hb2⟩
  have HO : Hid (MapOk L D) := ho
  have HD : Hid (IsMap D ∧ Tidy D) := ⟨hm.isMap, hm.tidy keyed⟩
  clear h hb1 hlt hap hm ho ht
  go_enter Tryz.func100, Tryz.ntmps100
  go_wp2_with (first | (go_at_call 121; refine hf.mono ?_; rintro e w9 ⟨rfl, hw9⟩; rw [hw9]; clear hw9) | (go_at_call 123; refine HE.out.mono ?_; rintro e w1 ⟨rfl, hrg, hkp⟩; have hF := HF.out w1 hkp; have hc0 := hF.1; have HF2 : Hid (w1.ownsMap Tryz.prog TKey ptrE bm L.length D) := hF.2; clear hF) | (at_mapUpdate; refine wpList_mapUpdate_own _ rfl _ _ _ TMp rfl TKey TPt keyed Tryz.underlying171 _ bm L.length D rfl HF2.out hl _ _ (kl k) rfl rfl (keyAt hk) (.lit (.int .i64 w.heap.size)) [] rfl ?_; intro w2 hown2 hgrow2))
  go_ret
  have hap := H.out.apart
  have hlt := H.out.lt
  have hbm : bm ∉ g :: L.map (·.blk) := fun hm => (hap.2 bm hm).2 rfl
  have hbo : bo ∉ g :: L.map (·.blk) := fun hm => (hap.2 bo hm).1 rfl
  have hlb := hlt bm (by simp [fp])
  have hkp2 : Kp w w2 (fp bo bm g L) := (hkp.sub (F' := fp bo bm g L) fun i hi => .inl (by simp only [fp]; exact List.mem_cons_of_mem _ (List.mem_cons_of_mem _ hi))).grown hgrow2 (by simp [fp])
  have hr2 : ∀ c, c ≠ bm → c < w1.heap.size → w2.heap[c]? = w1.heap[c]? := fun c hc hl => hgrow2.block c hl (fun e => by cases e; exact hc rfl)
  refine ⟨rfl, w.heap.size, ⟨⟨?_, ?_, ?_, ?_, ?_, ?_⟩, hkp2, ?_⟩⟩
  · have hlo := hlt bo (by simp [fp])
    rw [hr2 bo hap.1 (Nat.lt_of_lt_of_le hlo hkp.size), hkp.block bo hlo hbo]; exact H.out.ord
  · obtain ⟨nx, pv, rl, hg, hL⟩ := hrg
    have hin : ∀ c ∈ g :: (L ++ [(⟨k, 0, w.heap.size⟩ : Ent)]).map (·.blk), c ≠ bm := by
      intro c hc e
      subst e
      rw [List.map_append, ← List.cons_append] at hc
      rcases List.mem_append.1 hc with hc | hc
      · exact hbm hc
      · simp at hc; omega
    exact ⟨nx, pv, rl, (hr2 g (hin g (by simp)) (Array.getElem?_eq_some_iff.1 hg).1).trans hg, fun e he => (hr2 e.blk (hin e.blk (by simp only [List.mem_cons, List.mem_map]; exact .inr ⟨e, he, rfl⟩)) (Array.getElem?_eq_some_iff.1 (hL e he)).1).trans (hL e he)⟩
  · exact ⟨_, _, hown2, HO.out.put HD.out.1 HD.out.2 hk hn 0 w.heap.size⟩
  · exact nd_snoc H.out.kd hn
  · intro e he
    rcases List.mem_append.1 he with he | he
    · exact H.out.wf e he
    · simp at he; subst he; exact hk
  · intro e he
    rcases List.mem_append.1 he with he | he
    · exact H.out.pm e he
    · simp at he; subst he; exact Nat.zero_le _
  · intro i hi
    simp only [fp, List.map_append, List.mem_cons, List.mem_append, List.map_cons, List.map_nil, List.not_mem_nil, or_false] at hi ⊢
    rcases hi with h | h | h | h | h
    · exact .inl (.inl h)
    · exact .inl (.inr (.inl h))
    · exact .inl (.inr (.inr (.inl h)))
    · exact .inl (.inr (.inr (.inr h)))
    · exact .inr (by omega)
end Go.Proofs.YtlacligofhinmaaGreat.I

namespace Go.Proofs.YtlacligofhinmaaGreat.I
open Go.RowKit Go.Maps
attribute [local go_sem] Oper.semAt_some
set_option linter.unusedVariables false
set_option linter.unusedSimpArgs false
set_option maxRecDepth 100000

theorem no_find {w : World} {bo bm g : Nat} {L : List Ent} (h : RO w bo bm g L) {k : Int} (hk : wfK k) (hn : ∀ e ∈ L, e.key ≠ k) : Calls Tryz.prog 121 #[.pointer (some ⟨bo, 0, none⟩), kv k] w fun e w' => e = .returned (.tuple #[.pointer none, .bool true]) ∧ w' = w := by
  have := find_any h hk
  rw [look_no hn] at this
  exact this
theorem the_find {w : World} {bo bm g : Nat} {L : List Ent} (h : RO w bo bm g L) {e : Ent} (he : e ∈ L) : Calls Tryz.prog 121 #[.pointer (some ⟨bo, 0, none⟩), kv e.key] w fun r w' => r = .returned (.tuple #[.pointer (some ⟨e.blk, 0, none⟩), .bool true]) ∧ w' = w := by
  have := find_any h (h.wf e he)
  rw [look_mem he h.kd] at this
  exact this

theorem touch_no {w : World} {bo bm g : Nat} {L : List Ent} (h : RO w bo bm g L) {k : Int} (hk : wfK k) (hn : ∀ e ∈ L, e.key ≠ k) :
    Calls Tryz.prog 93 #[.pointer (some ⟨bo, 0, none⟩), kv k] w fun r w' => r = .returned (.bool false) ∧ w' = w := by
  have hf := no_find h hk hn
  go_enter Tryz.func93, Tryz.ntmps93
  go_wp2_with (go_at_call 121; refine hf.mono ?_; rintro e w9 ⟨rfl, hw9⟩; rw [hw9]; clear hw9)
  go_ret
  exact ⟨rfl, rfl⟩
theorem perm_mem {L1 L2 : List Ent} {e x : Ent} : x ∈ L1 ++ L2 ++ [e] ↔ x ∈ L1 ++ e :: L2 := by
  simp only [List.mem_append, List.mem_cons, List.not_mem_nil, or_false]
  constructor
  · rintro ((h | h) | h)
    · exact .inl h
    · exact .inr (.inr h)
    · exact .inr (.inl h)
  · rintro (h | h | h)
    · exact .inl (.inl h)
    · exact .inr h
    · exact .inl (.inr h)
set_option maxHeartbeats 2000000 in
theorem touch_any {w : World} {bo bm g : Nat} {L1 L2 : List Ent} {e : Ent} (h : RO w bo bm g (L1 ++ e :: L2)) :
    Calls Tryz.prog 93 #[.pointer (some ⟨bo, 0, none⟩), kv e.key] w fun r w' => r = .returned (.bool true) ∧ Act w w' bo bm g (L1 ++ e :: L2) (L1 ++ L2 ++ [e]) := by
  have hf := the_find h (e := e) (by simp)
  have H : Hid (RO w bo bm g (L1 ++ e :: L2)) := h
  have hlt := h.lt
  have hap := h.apart
  have hbo : bo ∉ g :: (L1 ++ L2).map (·.blk) := fun hm => (hap.2 bo (by simp only [List.map_append, List.map_cons, List.mem_cons, List.mem_append] at hm ⊢; rcases hm with h | h | h <;> simp [h])).1 rfl
  have HG : Hid (∀ w', Kp w w' (g :: (L1 ++ L2).map (·.blk)) → w'.cell? ⟨bo, 1, none⟩ = some (.pointer (some ⟨g, 0, none⟩))) := fun w' hk' => by
    have hb := hk'.block bo (hlt bo (by simp [fp])) hbo
    exact (cell_of (hb.trans h.ord)).trans rfl
  have HL : Hid (Calls Tryz.prog 122 #[.pointer (some ⟨e.blk, 0, none⟩)] w fun r w' => r = .returned (.tuple #[]) ∧ Rg w' g (L1 ++ L2) ∧ (∃ a b, w'.heap[e.blk]? = some (.cells #[kv e.key, .int .i64 e.pins, a, b] TPl (0, 0))) ∧ Kp w w' (g :: (L1 ++ L2).map (·.blk))) := leave_any h.ring
  have hnew : e.blk ∉ g :: (L1 ++ L2).map (·.blk) := by
    obtain ⟨nx, pv, rl, _, _⟩ := h.rg
    have nd := rl.nd
    simp only [List.map_append, List.map_cons, List.nodup_cons, List.mem_append, List.mem_cons, not_or, List.nodup_append] at nd
    obtain ⟨⟨g1, g2, g3⟩, n1, ⟨n2, n3⟩, n4⟩ := nd
    simp only [List.map_append, List.mem_cons, List.mem_append, not_or]
    exact ⟨fun h => g2 h.symm, fun h => n4 _ h _ (.inl rfl) rfl, n2⟩
  have HN : Hid (e.blk ∉ g :: (L1 ++ L2).map (·.blk)) := hnew
  clear h hlt hap hbo hnew
  go_enter Tryz.func93, Tryz.ntmps93
  go_wp2_with (first | (go_at_call 121; refine hf.mono ?_; rintro e w9 ⟨rfl, hw9⟩; rw [hw9]; clear hw9) | (go_at_call 122; refine HL.out.mono ?_; rintro r w1 ⟨rfl, hrg, ⟨va, vb, hpl⟩, hkp⟩; have hgp := HG.out w1 hkp; have HE : Hid (Calls Tryz.prog 123 #[.pointer (some ⟨e.blk, 0, none⟩), .pointer (some ⟨g, 0, none⟩)] w1 fun r w' => r = .returned (.tuple #[]) ∧ Rg w' g (L1 ++ L2 ++ [⟨e.key, e.pins, e.blk⟩]) ∧ Kp w1 w' (e.blk :: g :: (L1 ++ L2).map (·.blk))) := enter_any hrg hpl HN.out; clear hpl) | (go_at_call 123; refine HE.out.mono ?_; rintro r w2 ⟨rfl, hrg2, hkp2⟩))
  go_ret
  have hap := H.out.apart
  have hlt := H.out.lt
  have hsub : ∀ i ∈ e.blk :: g :: (L1 ++ L2).map (·.blk), i ∈ g :: (L1 ++ e :: L2).map (·.blk) := by
    intro i hi
    simp only [List.map_append, List.map_cons, List.mem_cons, List.mem_append] at hi ⊢
    rcases hi with h | h | h | h <;> simp [h]
  have hk : Kp w w2 (g :: (L1 ++ e :: L2).map (·.blk)) := (hkp.sub (F' := g :: (L1 ++ e :: L2).map (·.blk)) fun i hi => .inl (hsub i (List.mem_cons_of_mem _ hi))).trans (hkp2.sub (F' := g :: (L1 ++ e :: L2).map (·.blk)) fun i hi => .inl (hsub i hi)) (fun i hi => .inl hi)
  have hbo : bo ∉ g :: (L1 ++ e :: L2).map (·.blk) := fun hm => (hap.2 bo hm).1 rfl
  have hbm : bm ∉ g :: (L1 ++ e :: L2).map (·.blk) := fun hm => (hap.2 bm hm).2 rfl
  obtain ⟨n, D, hm, ho⟩ := H.out.mp
  refine ⟨rfl, ⟨⟨?_, hrg2, ⟨n, D, ownsMap_block hm (hk.block bm (hlt bm (by simp [fp])) hbm), ?_⟩, ?_, ?_, ?_⟩, hk.sub (fun i hi => .inl (by simp only [fp]; exact List.mem_cons_of_mem _ (List.mem_cons_of_mem _ hi))), ?_⟩⟩
  · rw [hk.block bo (hlt bo (by simp [fp])) hbo]; exact H.out.ord
  · exact ho.same (fun x hx => ⟨x, perm_mem.1 hx, rfl, rfl⟩) (fun x hx => ⟨x, perm_mem.2 hx, rfl⟩) (by simp)
  · have := H.out.kd
    simp only [List.map_append, List.map_cons, List.nodup_append, List.nodup_cons, List.mem_map, List.mem_cons, List.map_nil, List.mem_append, List.mem_singleton, List.not_mem_nil, List.nodup_nil] at this ⊢
    obtain ⟨h1, ⟨h2, h3⟩, h4⟩ := this
    refine ⟨⟨h1, h3, fun a ha b hb => h4 a ha b (.inr hb)⟩, ⟨by simp, trivial⟩, ?_⟩
    rintro a (ha | ha) b (rfl | hb)
    · exact h4 a ha _ (.inl rfl)
    · exact hb.elim
    · rintro rfl; exact h2 ha
    · exact hb.elim
  · intro x hx; exact H.out.wf x (perm_mem.1 hx)
  · intro x hx; exact H.out.pm x (perm_mem.1 hx)
  · intro i hi
    refine .inl ?_
    simp only [fp, List.mem_cons, List.mem_map] at hi ⊢
    rcases hi with h | h | h | ⟨x, hx, h⟩
    · exact .inl h
    · exact .inr (.inl h)
    · exact .inr (.inr (.inl h))
    · exact .inr (.inr (.inr ⟨x, perm_mem.1 hx, h⟩))

end Go.Proofs.YtlacligofhinmaaGreat.I

namespace Go.Proofs.YtlacligofhinmaaGreat.I
open Go.RowKit Go.Maps
attribute [local go_sem] Oper.semAt_some
set_option linter.unusedVariables false
set_option linter.unusedSimpArgs false
set_option maxRecDepth 100000

theorem drop_no {w : World} {bo bm g : Nat} {L : List Ent} (h : RO w bo bm g L) {k : Int} (hk : wfK k) (hn : ∀ e ∈ L, e.key ≠ k) :
    Calls Tryz.prog 124 #[.pointer (some ⟨bo, 0, none⟩), kv k] w fun r w' => r = .returned (.bool false) ∧ w' = w := by
  have hf := no_find h hk hn
  go_enter Tryz.func124, Tryz.ntmps124
  go_wp2_with (go_at_call 121; refine hf.mono ?_; rintro e w9 ⟨rfl, hw9⟩; rw [hw9]; clear hw9)
  go_ret
  exact ⟨rfl, rfl⟩
theorem less_mem {L1 L2 : List Ent} {e x : Ent} (h : x ∈ L1 ++ L2) : x ∈ L1 ++ e :: L2 := by rcases List.mem_append.1 h with h | h <;> simp [h]
set_option maxHeartbeats 2000000 in
theorem drop_any {w : World} {bo bm g : Nat} {L1 L2 : List Ent} {e : Ent} (h : RO w bo bm g (L1 ++ e :: L2)) :
    Calls Tryz.prog 124 #[.pointer (some ⟨bo, 0, none⟩), kv e.key] w fun r w' => r = .returned (.bool true) ∧ Act w w' bo bm g (L1 ++ e :: L2) (L1 ++ L2) := by
  have hf := the_find h (e := e) (by simp)
  have H : Hid (RO w bo bm g (L1 ++ e :: L2)) := h
  have hlt := h.lt
  have hap := h.apart
  obtain ⟨n, D, hm, ho⟩ := h.mp
  have hk := h.wf e (by simp)
  have hcut : ∀ c, c ∈ g :: (L1 ++ L2).map (·.blk) → c ∈ g :: (L1 ++ e :: L2).map (·.blk) := by
    intro c hm
    simp only [List.map_append, List.map_cons, List.mem_cons, List.mem_append] at hm ⊢
    rcases hm with h | h | h <;> simp [h]
  have HF : Hid (∀ w', Kp w w' (g :: (L1 ++ L2).map (·.blk)) → w'.cell? ⟨bo, 0, none⟩ = some (.map (some bm)) ∧ w'.ownsMap Tryz.prog TKey ptrE bm n D) := fun w' hk' => by
    have hb := hk'.block bo (hlt bo (by simp [fp])) (fun hm => (hap.2 bo (hcut _ hm)).1 rfl)
    have hb2 := hk'.block bm (hlt bm (by simp [fp])) (fun hm => (hap.2 bm (hcut _ hm)).2 rfl)
    exact ⟨(cell_of (hb.trans h.ord)).trans rfl, ownsMap_block hm hb2⟩
  have HL : Hid (Calls Tryz.prog 122 #[.pointer (some ⟨e.blk, 0, none⟩)] w fun r w' => r = .returned (.tuple #[]) ∧ Rg w' g (L1 ++ L2) ∧ (∃ a b, w'.heap[e.blk]? = some (.cells #[kv e.key, .int .i64 e.pins, a, b] TPl (0, 0))) ∧ Kp w w' (g :: (L1 ++ L2).map (·.blk))) := leave_any h.ring
  have HO : Hid (MapOk (L1 ++ e :: L2) D) := ho
  have HD : Hid (IsMap D ∧ Tidy D) := ⟨hm.isMap, hm.tidy keyed⟩
  have HC : Hid (∀ c, c ∈ g :: (L1 ++ L2).map (·.blk) → c ∈ g :: (L1 ++ e :: L2).map (·.blk)) := hcut
  clear h hlt hap hcut hm ho
  go_enter Tryz.func124, Tryz.ntmps124
  go_wp2_with (first | (go_at_call 121; refine hf.mono ?_; rintro e w9 ⟨rfl, hw9⟩; rw [hw9]; clear hw9) | (go_at_call 122; refine HL.out.mono ?_; rintro r w1 ⟨rfl, hrg, hpl, hkp⟩; have hF := HF.out w1 hkp; have hc0 := hF.1; have HF2 : Hid (w1.ownsMap Tryz.prog TKey ptrE bm n D) := hF.2; clear hF hpl) | (at_delete; refine wpList_delete_own _ rfl _ _ TMp TKey rfl TPt keyed Tryz.underlying171 _ bm n D rfl HF2.out _ _ rfl (keyAt hk) ?_; intro w2 hown2 hturn2))
  go_ret
  have hap := H.out.apart
  have hlt := H.out.lt
  have hgrow2 := hturn2.grown
  have hbm : bm ∉ g :: (L1 ++ L2).map (·.blk) := fun hm => (hap.2 bm (HC.out _ hm)).2 rfl
  have hbo : bo ∉ g :: (L1 ++ L2).map (·.blk) := fun hm => (hap.2 bo (HC.out _ hm)).1 rfl
  have hr2 : ∀ c, c ≠ bm → c < w1.heap.size → w2.heap[c]? = w1.heap[c]? := fun c hc hl => hgrow2.block c hl (fun e => by cases e; exact hc rfl)
  refine ⟨rfl, ⟨⟨?_, ?_, ⟨_, _, hown2, HO.out.del HD.out.2 H.out.kd⟩, ?_, fun x hx => H.out.wf x (less_mem hx), fun x hx => H.out.pm x (less_mem hx)⟩, ?_, ?_⟩⟩
  · have hlo := hlt bo (by simp [fp])
    rw [hr2 bo hap.1 (Nat.lt_of_lt_of_le hlo hkp.size), hkp.block bo hlo hbo]; exact H.out.ord
  · obtain ⟨nx, pv, rl, hg, hL⟩ := hrg
    have hin : ∀ c ∈ g :: (L1 ++ L2).map (·.blk), c ≠ bm := fun c hc e => hbm (e ▸ hc)
    exact ⟨nx, pv, rl, (hr2 g (hin g (by simp)) (Array.getElem?_eq_some_iff.1 hg).1).trans hg, fun e he => (hr2 e.blk (hin e.blk (by simp only [List.mem_cons, List.mem_map]; exact .inr ⟨e, he, rfl⟩)) (Array.getElem?_eq_some_iff.1 (hL e he)).1).trans (hL e he)⟩
  · have := H.out.kd
    simp only [List.map_append, List.map_cons, List.nodup_append, List.nodup_cons, List.mem_cons] at this ⊢
    exact ⟨this.1, this.2.1.2, fun a ha b hb => this.2.2 a ha b (.inr hb)⟩
  · exact (hkp.sub (F' := fp bo bm g (L1 ++ e :: L2)) fun i hi => .inl (by simp only [fp]; exact List.mem_cons_of_mem _ (List.mem_cons_of_mem _ (HC.out _ hi)))).grown hgrow2 (by simp [fp])
  · intro i hi
    refine .inl ?_
    simp only [fp, List.mem_cons] at hi ⊢
    rcases hi with h | h | h
    · exact .inl h
    · exact .inr (.inl h)
    · exact .inr (.inr (by simpa using HC.out i (by simpa using h)))
end Go.Proofs.YtlacligofhinmaaGreat.I

namespace Go.Proofs.YtlacligofhinmaaGreat.I
open Go.RowKit Go.Maps
attribute [local go_sem] Oper.semAt_some
set_option linter.unusedVariables false
set_option linter.unusedSimpArgs false
set_option maxRecDepth 100000

theorem RO.setPins {w : World} {bo bm g : Nat} {L1 L2 : List Ent} {e : Ent} (h : RO w bo bm g (L1 ++ e :: L2)) (m : Nat) (hm : m ≤ 2147483647) :
    Act w (w.setCell ⟨e.blk, 1, none⟩ (.int .i64 m)) bo bm g (L1 ++ e :: L2) (L1 ++ ⟨e.key, m, e.blk⟩ :: L2) := by
  have hap := h.apart
  have hin : e.blk ∈ g :: (L1 ++ e :: L2).map (·.blk) := by simp
  have hmapb : (L1 ++ (⟨e.key, m, e.blk⟩ : Ent) :: L2).map (·.blk) = (L1 ++ e :: L2).map (·.blk) := by simp
  have hmapk : (L1 ++ (⟨e.key, m, e.blk⟩ : Ent) :: L2).map (·.key) = (L1 ++ e :: L2).map (·.key) := by simp
  have hfp : fp bo bm g (L1 ++ (⟨e.key, m, e.blk⟩ : Ent) :: L2) = fp bo bm g (L1 ++ e :: L2) := by simp only [fp, hmapb]
  obtain ⟨nx, pv, rl, hg, hL⟩ := h.rg
  obtain ⟨n, D, hmp, ho⟩ := h.mp
  have nd := rl.nd
  have hne : ∀ x ∈ L1 ++ L2, x.blk ≠ e.blk := by
    intro x hx
    simp only [List.map_append, List.map_cons, List.nodup_cons, List.mem_append, List.mem_cons, not_or, List.nodup_append, List.mem_map] at nd
    obtain ⟨⟨g1, g2, g3⟩, n1, ⟨n2, n3⟩, n4⟩ := nd
    rcases List.mem_append.1 hx with hx | hx
    · exact n4 _ ⟨x, hx, rfl⟩ _ (.inl rfl)
    · exact fun h => n2 ⟨x, hx, h⟩
  have hge : g ≠ e.blk := by
    intro h
    exact (List.nodup_cons.1 nd).1 (by rw [h]; simp)
  refine ⟨⟨?_, ⟨nx, pv, by rw [hmapb]; exact rl, ?_, ?_⟩, ⟨n, D, ownsMap_block hmp (heap_setCell_other _ _ _ _ (fun h => (hap.2 _ hin).2 h.symm)), ?_⟩, by rw [hmapk]; exact h.kd, ?_, ?_⟩, ?_, fun i hi => .inl (by rw [← hfp]; exact hi)⟩
  · rw [heap_setCell_other _ _ _ _ (fun h => (hap.2 _ hin).1 h.symm)]; exact h.ord
  · rw [heap_setCell_other _ _ _ _ hge]; exact hg
  · intro x hx
    rcases List.mem_append.1 hx with hx | hx
    · rw [heap_setCell_other _ _ _ _ (hne x (by simp [hx]))]; exact hL x (by simp [hx])
    · rcases List.mem_cons.1 hx with rfl | hx
      · rw [heap_setCell_same _ _ _ _ _ _ (hL e (by simp))]; rfl
      · rw [heap_setCell_other _ _ _ _ (hne x (by simp [hx]))]; exact hL x (by simp [hx])
  · refine ho.same (fun x hx => ?_) (fun x hx => ?_) (by simp)
    · rcases List.mem_append.1 hx with hx | hx
      · exact ⟨x, by simp [hx], rfl, rfl⟩
      · rcases List.mem_cons.1 hx with rfl | hx
        · exact ⟨e, by simp, rfl, rfl⟩
        · exact ⟨x, by simp [hx], rfl, rfl⟩
    · rcases List.mem_append.1 hx with hx | hx
      · exact ⟨x, by simp [hx], rfl⟩
      · rcases List.mem_cons.1 hx with rfl | hx
        · exact ⟨⟨x.key, m, x.blk⟩, by simp, rfl⟩
        · exact ⟨x, by simp [hx], rfl⟩
  · intro x hx
    rcases List.mem_append.1 hx with hx | hx
    · exact h.wf x (by simp [hx])
    · rcases List.mem_cons.1 hx with rfl | hx
      · exact h.wf e (by simp)
      · exact h.wf x (by simp [hx])
  · intro x hx
    rcases List.mem_append.1 hx with hx | hx
    · exact h.pm x (by simp [hx])
    · rcases List.mem_cons.1 hx with rfl | hx
      · exact hm
      · exact h.pm x (by simp [hx])
  · exact (Kp.refl w _).set (.inl (by simp only [fp]; exact List.mem_cons_of_mem _ (List.mem_cons_of_mem _ hin))) _
theorem RO.pinCell {w : World} {bo bm g : Nat} {L : List Ent} (h : RO w bo bm g L) {e : Ent} (he : e ∈ L) : w.cell? ⟨e.blk, 1, none⟩ = some (.int .i64 e.pins) ∧ w.frozen? ⟨e.blk, 1, none⟩ = false := by
  obtain ⟨nx, pv, rl, hg, hL⟩ := h.rg
  exact ⟨(cell_of (hL e he)).trans rfl, frozen_of (hL e he)⟩

theorem RO.mapLen {w : World} {bo bm g : Nat} {L : List Ent} (h : RO w bo bm g L) (ty : TypeId) : (Builtin.len_ #[TMp] ty #[.map (some bm)]).run Tryz.prog w = .ok (.int .i64 L.length) w := by
  obtain ⟨n, D, hmp, ho⟩ := h.mp
  rw [hmp.len Tryz.underlying171 ty, ho.size]
end Go.Proofs.YtlacligofhinmaaGreat.I

namespace Go.Proofs.YtlacligofhinmaaGreat.I
open Go.RowKit Go.Maps
attribute [local go_sem] Oper.semAt_some
set_option linter.unusedVariables false
set_option linter.unusedSimpArgs false
set_option maxRecDepth 100000

set_option maxHeartbeats 1000000 in
theorem new_any (w : World) : Calls Tryz.prog 59 #[] w fun r w' => ∃ bo bm g, r = .returned (.pointer (some ⟨bo, 0, none⟩)) ∧ RO w' bo bm g [] ∧ Below w.heap.size w w' ∧ ∀ i ∈ fp bo bm g [], w.heap.size ≤ i := by
  have hmk := fun (w : World) => run_makeMap (P := Tryz.prog) TMp w
  go_enter Tryz.func59, Tryz.ntmps59
  go_wp2
  go_ret
  have H : Hid (∀ (c : Obj) (d : Obj), (((w.alloc c).alloc (.map #[] 0)).alloc d).heap[w.heap.size]? = some c ∧ (((w.alloc c).alloc (.map #[] 0)).alloc d).heap[w.heap.size + 1]? = some (.map #[] 0) ∧ (((w.alloc c).alloc (.map #[] 0)).alloc d).heap[w.heap.size + 1 + 1]? = some d ∧ Below w.heap.size w (((w.alloc c).alloc (.map #[] 0)).alloc d)) := by
    intro c d
    have s1 : (w.alloc c).heap.size = w.heap.size + 1 := World.size_alloc _ _
    have s2 : ((w.alloc c).alloc (.map #[] 0)).heap.size = w.heap.size + 1 + 1 := by rw [World.size_alloc, s1]
    refine ⟨?_, ?_, ?_, ?_⟩
    · rw [Below.heap_alloc _ _ _ (by omega), Below.heap_alloc _ _ _ (by omega), heap_alloc_new]
    · rw [Below.heap_alloc _ _ _ (by omega), ← s1, heap_alloc_new]
    · rw [← s2, heap_alloc_new]
    · exact (((Below.refl _ w).alloc (Nat.le_refl _) _).alloc (by omega) _).alloc (by omega) _
  refine ⟨w.heap.size + 1 + 1, w.heap.size + 1, w.heap.size, rfl, ⟨?_, ⟨fun _ => w.heap.size, fun _ => w.heap.size, RingL.nil _ _ _ rfl rfl, ?_, by simp⟩, ⟨0, .map [], ?_, ?_⟩, by simp, by simp, by simp⟩, (H.out _ _).2.2.2, ?_⟩
  · exact (H.out _ _).2.2.1
  · exact (H.out _ _).1
  · exact ⟨#[], 0, (H.out _ _).2.1, ⟨by simp, ⟨by simp, by simp, by simp⟩, by simp⟩, Nat.le_refl _, rfl⟩
  · exact ⟨by simp, by simp, fun k _ => rfl, rfl⟩
  · intro i hi
    simp only [fp, List.map_nil, List.mem_cons, List.not_mem_nil, or_false] at hi
    omega
end Go.Proofs.YtlacligofhinmaaGreat.I

namespace Go.Proofs.YtlacligofhinmaaGreat.I
open Go.RowKit Go.Maps
set_option linter.unusedSimpArgs false
set_option maxRecDepth 100000
theorem sizePl (w : World) : (sizeOf TPl).run Tryz.prog w = .ok 4 w := by kernel_rfl
theorem undPt : Tryz.prog.underlying TPt = some (.pointer TPl) := Tryz.underlying168
theorem shape_of {w : World} {a : Nat} {cs : Array Value} {T : TypeId} (h : w.heap[a]? = some (.cells cs T (0, 0))) : w.shape? a = some (T, cs.size) := by
  unfold World.shape?; rw [h]
theorem noView_cells (w : World) {a : Nat} {cs : Array Value} {T : TypeId} (h : w.heap[a]? = some (.cells cs T (0, 0))) : (noView ⟨a, 0, none⟩).run Tryz.prog w = .ok () w := by
  simp [noView, viewAt, shape_of h, go_sem]
theorem mayBeOne_cells (w : World) {a b : Nat} {cs cs' : Array Value} {T T' : TypeId} (h : w.heap[a]? = some (.cells cs T (0, 0))) (h' : w.heap[b]? = some (.cells cs' T' (0, 0))) : (mayBeOne ⟨a, 0, none⟩ ⟨b, 0, none⟩).run Tryz.prog w = .ok false w := by
  have f1 : ∀ n, w.frozen? ⟨a, n, none⟩ = false := fun n => frozen_of h
  have f2 : ∀ n, w.frozen? ⟨b, n, none⟩ = false := fun n => frozen_of h'
  simp [mayBeOne, stringish, shape_of h, shape_of h', f1, f2, go_sem]
theorem sameAddr_cells (w : World) {a b : Nat} {cs cs' : Array Value} {T T' : TypeId} (h : w.heap[a]? = some (.cells cs T (0, 0))) (h' : w.heap[b]? = some (.cells cs' T' (0, 0))) (hab : a ≠ b) : (sameAddr ⟨a, 0, none⟩ ⟨b, 0, none⟩).run Tryz.prog w = .ok false w := by
  have f1 : ∀ n, w.frozen? ⟨a, n, none⟩ = false := fun n => frozen_of h
  simp [sameAddr, hab, f1, noView_cells w h, noView_cells w h', mayBeOne_cells w h h', go_sem]
theorem eqIn_ptr (w : World) (d : Nat) {a b : Nat} {cs cs' : Array Value} {T T' : TypeId} (h : w.heap[a]? = some (.cells cs T (0, 0))) (h' : w.heap[b]? = some (.cells cs' T' (0, 0))) (hab : a ≠ b) : (Op.equalIn (d + 1) TPt (.pointer (some ⟨a, 0, none⟩)) (.pointer (some ⟨b, 0, none⟩))).run Tryz.prog w = .ok false w := by
  simp [Op.equalIn, run_underlying undPt, sizePl, sameAddr_cells w h h' hab]
theorem eqIn_ptr_same (w : World) (d : Nat) (a : Nat) : (Op.equalIn (d + 1) TPt (.pointer (some ⟨a, 0, none⟩)) (.pointer (some ⟨a, 0, none⟩))).run Tryz.prog w = .ok true w := by
  simp [Op.equalIn, run_underlying undPt, sizePl, sameAddr]
theorem eq_ptr (w : World) {a b : Nat} {cs cs' : Array Value} {T T' : TypeId} (h : w.heap[a]? = some (.cells cs T (0, 0))) (h' : w.heap[b]? = some (.cells cs' T' (0, 0))) (hab : a ≠ b) : (Op.equal TPt (.pointer (some ⟨a, 0, none⟩)) (.pointer (some ⟨b, 0, none⟩))).run Tryz.prog w = .ok false w := eqIn_ptr w 9999 h h' hab
theorem eq_ptr_same (w : World) (a : Nat) : (Op.equal TPt (.pointer (some ⟨a, 0, none⟩)) (.pointer (some ⟨a, 0, none⟩))).run Tryz.prog w = .ok true w := eqIn_ptr_same w 9999 a
theorem neq_ptr (w : World) {a b : Nat} {cs cs' : Array Value} {T T' : TypeId} (h : w.heap[a]? = some (.cells cs T (0, 0))) (h' : w.heap[b]? = some (.cells cs' T' (0, 0))) (hab : a ≠ b) : (binOp .neq TPt (.pointer (some ⟨a, 0, none⟩)) (.pointer (some ⟨b, 0, none⟩))).run Tryz.prog w = .ok (.bool true) w := by
  simp only [binOp]
  simp [eq_ptr w h h' hab]
theorem neq_ptr_same (w : World) (a : Nat) : (binOp .neq TPt (.pointer (some ⟨a, 0, none⟩)) (.pointer (some ⟨a, 0, none⟩))).run Tryz.prog w = .ok (.bool false) w := by
  simp only [binOp]
  simp [eq_ptr_same w a]
end Go.Proofs.YtlacligofhinmaaGreat.I

namespace Go.Proofs.YtlacligofhinmaaGreat.I
open Go.RowKit Go.Maps
attribute [local go_sem] Oper.semAt_some
set_option linter.unusedVariables false
set_option linter.unusedSimpArgs false
set_option maxRecDepth 100000

/-- the block of the k-th place; behind the last the gap -/
def nthP (L : List Ent) (g k : Nat) : Nat := (L.map (·.blk) ++ [g]).getD k g
theorem nthP_lt {L : List Ent} {g k : Nat} {e : Ent} (h : L[k]? = some e) : nthP L g k = e.blk := by
  unfold nthP
  have hk := (List.getElem?_eq_some_iff.1 h).1
  rw [List.getD_eq_getElem?_getD, List.getElem?_append_left (by simpa using hk), List.getElem?_map, h]; rfl
theorem nthP_end (L : List Ent) (g : Nat) : nthP L g L.length = g := by
  unfold nthP
  rw [List.getD_eq_getElem?_getD, List.getElem?_append_right (by simp)]; simp
theorem RO.first {w : World} {bo bm g : Nat} {L : List Ent} (h : RO w bo bm g L) : w.cell? ⟨g, 3, none⟩ = some (.pointer (some ⟨nthP L g 0, 0, none⟩)) := by
  obtain ⟨nx, pv, rl, hg, hL⟩ := h.rg
  rw [cell_of hg]
  have := rl.first
  show some (Value.pointer (some ⟨nx g, 0, none⟩)) = _
  rw [this]
  unfold nthP
  cases L <;> rfl
theorem RO.next {w : World} {bo bm g : Nat} {L : List Ent} (h : RO w bo bm g L) {k : Nat} {e : Ent} (he : L[k]? = some e) : w.cell? ⟨e.blk, 3, none⟩ = some (.pointer (some ⟨nthP L g (k + 1), 0, none⟩)) := by
  obtain ⟨nx, pv, rl, hg, hL⟩ := h.rg
  have hk := (List.getElem?_eq_some_iff.1 he).1
  rw [cell_of (hL e (List.mem_of_getElem? he))]
  show some (Value.pointer (some ⟨nx e.blk, 0, none⟩)) = _
  have hc : (L.map (·.blk) ++ [g])[k + 1]? = some (nthP L g (k + 1)) := by
    unfold nthP
    rw [List.getD_eq_getElem?_getD, List.getElem?_eq_getElem (by simp; omega)]; rfl
  rw [rl.next (i := k) (b := e.blk) (by rw [List.getElem?_map, he]; rfl) hc]
theorem RO.notGap {w : World} {bo bm g : Nat} {L : List Ent} (h : RO w bo bm g L) {e : Ent} (he : e ∈ L) : e.blk ≠ g := by
  obtain ⟨nx, pv, rl, hg, hL⟩ := h.rg
  intro e'
  exact (List.nodup_cons.1 rl.nd).1 (by rw [← e']; exact List.mem_map.2 ⟨e, he, rfl⟩)
/-- how many places are left -/
def leftP (L : List Ent) : Value → Nat
  | .pointer (some a) => L.length - (L.map (·.blk)).idxOf a.block
  | _ => 0
theorem leftP_lt {L : List Ent} {g k : Nat} (hn : (g :: L.map (·.blk)).Nodup) (hk : k ≤ L.length) : leftP L (.pointer (some ⟨nthP L g k, 0, none⟩)) = L.length - k := by
  unfold leftP
  simp only
  have : (L.map (·.blk)).idxOf (nthP L g k) = k := by
    by_cases h : k < L.length
    · rw [nthP_lt (List.getElem?_eq_getElem h)]
      have h2 : k < (L.map (·.blk)).length := by simpa using h
      have := List.Nodup.idxOf_getElem (List.nodup_cons.1 hn).2 k h2
      simpa using this
    · have e : k = L.length := by omega
      subst e
      rw [nthP_end, List.idxOf_eq_length (List.nodup_cons.1 hn).1]; simp
  rw [this]
theorem RO.nd {w : World} {bo bm g : Nat} {L : List Ent} (h : RO w bo bm g L) : (g :: L.map (·.blk)).Nodup := by
  obtain ⟨nx, pv, rl, hg, hL⟩ := h.rg
  exact rl.nd

theorem RO.gapBlk {w : World} {bo bm g : Nat} {L : List Ent} (h : RO w bo bm g L) : ∃ o x, w.heap[g]? = some (plc 0 0 o x) := by
  obtain ⟨nx, pv, rl, hg, hL⟩ := h.rg
  exact ⟨_, _, hg⟩
theorem RO.plcBlk {w : World} {bo bm g : Nat} {L : List Ent} (h : RO w bo bm g L) {e : Ent} (he : e ∈ L) : ∃ o x, w.heap[e.blk]? = some (plc e.key e.pins o x) := by
  obtain ⟨nx, pv, rl, hg, hL⟩ := h.rg
  exact ⟨_, _, hL e he⟩

end Go.Proofs.YtlacligofhinmaaGreat.I

namespace Go.Proofs.YtlacligofhinmaaGreat.I.A
open Go.RowKit Go.Maps Go.Proofs.YtlacligofhinmaaGreat.I
attribute [local go_sem] Oper.semAt_some
attribute [local go_sem ↓] Go.wp_at_zero Go.wp_at_succ
set_option linter.unusedVariables false
set_option linter.unusedSimpArgs false
set_option maxRecDepth 100000

abbrev TKeys : TypeId := 39
/-- which places are picked -/
def sel (e : Ent) : Bool := true
def KV (l : List Int) : List Value := l.map kv
/-- the keys of those that are picked -/
def picked (L : List Ent) : List Int := (L.filter sel).map (·.key)
theorem picked_hit (pre : List Ent) (e : Ent) (h : sel e = true) : picked (pre ++ [e]) = picked pre ++ [e.key] := by simp [picked, h]
theorem picked_miss (pre : List Ent) (e : Ent) (h : sel e = false) : picked (pre ++ [e]) = picked pre := by simp [picked, h]
theorem picked_length (L : List Ent) : (picked L).length ≤ L.length := by unfold picked; rw [List.length_map]; exact List.length_filter_le _ _
theorem infoKey : (Tryz.prog.info? TKey).map (fun i => (i.zero, i.size, i.bytes)) = some (some (kv 0), 1, 8) := by kernel_rfl

theorem pick_any {W : World} {bo bm g : Nat} {L : List Ent} (h : RO W bo bm g L) {e : Ent} (he : e ∈ L) : Calls Tryz.prog 120 #[.pointer (some ⟨e.blk, 0, none⟩)] W fun r w' => r = .returned (.bool (sel e)) ∧ w' = W := by
  go_enter Tryz.func120, Tryz.ntmps120
  go_wp2
  go_ret
  exact ⟨rfl, rfl⟩
/-- the gathered keys, in memory of one's own -/
def Gath (B kb : Nat) (W0 W : World) (ks : List Int) : Prop := Below B W0 W ∧ ∃ v, Boxed W kb TKeys v ∧ W.ownsRow B TKey 1 v ks.length (KV ks)
theorem lowerRO {w w' : World} {bo bm g B : Nat} {L : List Ent} (h : RO w bo bm g L) (hB : ∀ i ∈ fp bo bm g L, i < B) (hb : Below B w w') : RO w' bo bm g L := h.same fun i hi => hb.block i (hB i hi)

set_option maxHeartbeats 2000000 in
theorem cb_any {B kb b1 : Nat} {W0 W : World} {bo bm g : Nat} {L : List Ent} {ks : List Int} (h : RO W0 bo bm g L) (hB : ∀ i ∈ fp bo bm g L, i < B) (hb1 : W0.cell? ⟨b1, 0, none⟩ = some (.func (.func 120) #[] #[])) (hlt1 : b1 < B) (hkb : B ≤ kb) (hBW : B ≤ W0.heap.size) (G : Gath B kb W0 W ks) {e : Ent} (he : e ∈ L) (hlen : (ks.length + 1) * 8 ≤ 140737488355328) :
    Calls Tryz.prog 159 #[.pointer (some ⟨e.blk, 0, none⟩), .pointer (some ⟨b1, 0, none⟩), .pointer (some ⟨kb, 0, none⟩)] W fun r W' => r = .returned (.bool true) ∧ Gath B kb W0 W' (if sel e then ks ++ [e.key] else ks) := by
  obtain ⟨i0, hi, hz0, hz1, hz2⟩ := info_parts infoKey
  obtain ⟨hb, v, hbox, hrow⟩ := G
  have hro := lowerRO h hB hb
  have hpk := pick_any hro he
  obtain ⟨o, x, hpl⟩ := hro.plcBlk he
  have hk : W.cell? ⟨e.blk, 0, none⟩ = some (kv e.key) := (cell_of hpl).trans rfl
  have hc1 : W.cell? ⟨b1, 0, none⟩ = some (.func (.func 120) #[] #[]) := (World.cell?_of_block (hb.block b1 hlt1)).trans hb1
  have hcv := hbox.cell
  have hcf := hbox.frozen
  have hbs := hb.size
  by_cases hs : sel e = true
  · rw [hs] at hpk
    simp only [hs, if_true]
    have HR : Hid (W.ownsRow B TKey 1 v ks.length (KV ks)) := hrow
    have HX : Hid (Boxed W kb TKeys v) := hbox
    have HB : Hid (Below B W0 W) := hb
    have HK2 : Hid (∀ w1, (W.alloc (.cells #[kv e.key] TKey)).grownBy w1 v.ownBlock → w1.cell? ⟨e.blk, 0, none⟩ = some (kv e.key)) := fun w1 hg => by
      have hlb : e.blk < B := hB e.blk (by simp only [fp, List.mem_cons, List.mem_map]; exact .inr (.inr (.inr ⟨e, he, rfl⟩)))
      have h1 := hg.cell_far ⟨e.blk, 0, none⟩ (by rw [World.size_alloc]; show e.blk < _; omega) (fun e' => by have := (hrow.lt _ e'.symm).1; have : B ≤ e.blk := this; omega)
      rw [h1]
      exact cell_later ((Below.refl _ W).alloc (Nat.le_refl _) _) hk
    have hcva : (W.alloc (.cells #[kv e.key] TKey)).cell? ⟨kb, 0, none⟩ = some v := cell_later ((Below.refl _ W).alloc (Nat.le_refl _) _) hcv
    clear hs h hB hb1 hb hbox hrow hro hpl
    go_enter Tryz.func159, Tryz.ntmps159
    go_wp2_with (go_at_call 120; refine hpk.mono ?_; rintro e w9 ⟨rfl, hw9⟩; rw [hw9]; clear hw9)
    go_region_law (refine step_append_lies _ (by rfl) _ _ TKeys (by rfl) B TKey i0 _ 1 8 Tryz.underlying39 hi hz0 hz1 hz2 rfl (by decide) v ks.length (KV ks) (by rfl) (HR.out.alloc _) ⟨W.heap.size, 0, none⟩ 1 1 [kv e.key] (by rfl) rfl (World.news_of_block (heap_alloc_new W _)) (by simp [Value.oneCell']) (by decide) (by unfold maxLen; omega) hlen (by show B ≤ (W.alloc _).heap.size; rw [World.size_alloc]; omega) (W.heap.size + 1) (by simp) ?_; intro g' cap' w1 hown' hgrow hat hlt; have hgr2 : (W.alloc (.cells #[kv e.key] TKey)).grownBy w1 v.ownBlock := ⟨hgrow.os, hgrow.tape, hgrow.output, hgrow.size, hgrow.block⟩; have hap := HX.out.appended (by decide) HR.out (by omega) hkb hown' hgr2; have hc2 : w1.cell? ⟨kb, 0, none⟩ = some v := hap.1.cell; have hf2 : w1.frozen? ⟨kb, 0, none⟩ = false := hap.1.frozen; have hk2 : w1.cell? ⟨e.blk, 0, none⟩ = some (kv e.key) := HK2.out w1 hgr2; have HA : Hid (Boxed (w1.setCell ⟨kb, 0, none⟩ (.slice (some ⟨g', 0, none⟩) (ks.length + 1) cap')) kb TKeys (.slice (some ⟨g', 0, none⟩) (ks.length + 1) cap') ∧ (w1.setCell ⟨kb, 0, none⟩ (.slice (some ⟨g', 0, none⟩) (ks.length + 1) cap')).ownsRow B TKey 1 (.slice (some ⟨g', 0, none⟩) (ks.length + 1) cap') (ks.length + 1) (KV ks ++ [kv e.key]) ∧ Below B W (w1.setCell ⟨kb, 0, none⟩ (.slice (some ⟨g', 0, none⟩) (ks.length + 1) cap'))) := ⟨hap.2.1, hap.2.2.1, hap.2.2.2.2⟩; clear hown' hgrow hat hlt hgr2 hap)
    all_goals go_wp2
    all_goals go_ret
    all_goals exact ⟨rfl, HB.out.trans HA.out.2.2, _, HA.out.1, by rw [List.length_append, KV, List.map_append]; exact HA.out.2.1⟩
  · have hs' : sel e = false := by simpa using hs
    rw [hs'] at hpk
    simp only [hs, if_false]
    have HG : Hid (Gath B kb W0 W ks) := ⟨hb, v, hbox, hrow⟩
    clear h hB hb1 hb hbox hrow hro hpl hs hs'
    go_enter Tryz.func159, Tryz.ntmps159
    go_wp2_with (go_at_call 120; refine hpk.mono ?_; rintro e w9 ⟨rfl, hw9⟩; rw [hw9]; clear hw9)
    go_ret
    exact ⟨rfl, HG.out⟩
end Go.Proofs.YtlacligofhinmaaGreat.I.A

namespace Go.Proofs.YtlacligofhinmaaGreat.I
open Go.RowKit Go.Maps
attribute [local go_sem] Oper.semAt_some
set_option linter.unusedVariables false
set_option linter.unusedSimpArgs false
set_option maxRecDepth 100000

set_option maxHeartbeats 2000000 in
/-- the walk through the places, by what its callback keeps -/
theorem walk_told {w : World} {bo bm g : Nat} {L : List Ent} (h : RO w bo bm g L) (c1 c2 : Value) (J Jx : List Ent → World → Prop) (h0 : J [] w)
    (hJ : ∀ pre W, J pre W → RO W bo bm g L)
    (hs : ∀ k e W, L[k]? = some e → J (L.take k) W → Calls Tryz.prog 159 #[.pointer (some ⟨e.blk, 0, none⟩), c1, c2] W fun r W' => (r = .returned (.bool true) ∧ J (L.take (k + 1)) W') ∨ (r = .returned (.bool false) ∧ Jx (L.take (k + 1)) W')) :
    Calls Tryz.prog 158 #[.pointer (some ⟨bo, 0, none⟩), .func (.func 159) #[] #[c1, c2]] w fun r w' => r = .returned (.tuple #[]) ∧ (J L w' ∨ ∃ k, k < L.length ∧ Jx (L.take (k + 1)) w') := by
  have hu := usable_any h
  have hgap := h.gap
  have hfst := h.first
  have hnd := h.nd
  have HJ : Hid (∀ pre W, J pre W → RO W bo bm g L) := hJ
  have HS : Hid (∀ k e W, L[k]? = some e → J (L.take k) W → Calls Tryz.prog 159 #[.pointer (some ⟨e.blk, 0, none⟩), c1, c2] W fun r W' => (r = .returned (.bool true) ∧ J (L.take (k + 1)) W') ∨ (r = .returned (.bool false) ∧ Jx (L.take (k + 1)) W')) := hs
  have H0 : Hid (J [] w) := h0
  have HN : Hid ((g :: L.map (·.blk)).Nodup) := hnd
  clear h hJ hs h0 hnd
  go_enter Tryz.func158, Tryz.ntmps158
  go_wp2_with (go_at_call 160; refine hu.mono ?_; rintro e w9 ⟨rfl, hw9⟩; rw [hw9]; clear hw9)
  go_loopw [4] (fun p wr => ∃ k, k ≤ L.length ∧ p = .pointer (some ⟨nthP L g k, 0, none⟩) ∧ Hid (J (L.take k) wr)) (fun p _ => leftP L p)
  case atStart => exact ⟨0, Nat.zero_le _, rfl, H0⟩
  case round =>
    obtain ⟨k, hk, rfl, HK⟩ := hrel
    have hro := HJ.out _ _ HK.out
    have hgr := hro.gap
    have hgb := hro.gapBlk
    by_cases hlt : k < L.length
    · have he : L[k]? = some L[k] := List.getElem?_eq_getElem hlt
      have hb := nthP_lt (g := g) he
      have hng := hro.notGap (List.mem_of_getElem? he)
      have hst := (HS.out k _ wr he HK.out).mono (R' := fun r W' => (r = .returned (.bool true) ∧ J (L.take (k + 1)) W' ∧ W'.cell? ⟨L[k].blk, 3, none⟩ = some (.pointer (some ⟨nthP L g (k + 1), 0, none⟩))) ∨ (r = .returned (.bool false) ∧ Jx (L.take (k + 1)) W')) (fun r W' h => h.imp (fun h => ⟨h.1, h.2, (HJ.out _ _ h.2).next he⟩) id)
      obtain ⟨pa, pb, hpl⟩ := hro.plcBlk (List.mem_of_getElem? he)
      obtain ⟨ga, gb, hgb⟩ := hgb
      have hnq := neq_ptr wr hpl hgb hng
      rw [hb]
      generalize L[k] = e at *
      have HE : Hid (L[k]? = some e) := he
      have HM : Hid (leftP L (.pointer (some ⟨e.blk, 0, none⟩)) = L.length - k) := by rw [← hb]; exact leftP_lt HN.out hk
      clear he hro hb hpl hgb hng
      go_wp2_with (go_at_call 159; refine hst.mono ?_; rintro r w1 (⟨rfl, hj1, hnx⟩ | ⟨rfl, hjx⟩))
      · go_roundw
        case rel => exact ⟨k + 1, by omega, rfl, hj1⟩
        case measure => rw [leftP_lt HN.out (by omega : k + 1 ≤ L.length), HM.out]; omega
      · go_end0
        exact ⟨rfl, .inr ⟨k, hlt, hjx⟩⟩
    · have e : k = L.length := by omega
      subst e
      rw [nthP_end]
      have hnq := neq_ptr_same wr g
      have HE : Hid (J L wr) := by have := HK.out; rw [List.take_length] at this; exact this
      clear hro hgb
      go_wp2
      go_end0
      exact ⟨rfl, .inl HE.out⟩
end Go.Proofs.YtlacligofhinmaaGreat.I

namespace Go.Proofs.YtlacligofhinmaaGreat.I.A
open Go.RowKit Go.Maps Go.Shelf Go.Proofs.YtlacligofhinmaaGreat.I
attribute [local go_sem] Oper.semAt_some
set_option linter.unusedVariables false
set_option linter.unusedSimpArgs false
set_option maxRecDepth 100000

/-- a row of keys is kept by what the ranging's body does -/
structure KeepsRow (Kp : World → World → Prop) (Fine : Nat → World → Prop) : Prop where
  k : ∀ {W W' : World} {g : Nat} {cur : Array Value} {fr : Nat × Nat}, Kp W W' → Fine g W → W.heap[g]? = some (.cells cur TKey fr) → W'.heap[g]? = some (.cells cur TKey fr) ∧ Fine g W'
theorem KV_get {ks : List Int} {k : Nat} {x : Int} (h : ks[k]? = some x) : (KV ks)[k]? = some (kv x) := by unfold KV; rw [List.getElem?_map, h]; rfl

theorem row_form {W : World} {B : Nat} {v : Value} {ks : List Int} (h : W.ownsRow B TKey 1 v ks.length (KV ks)) : ∃ ao cap, v = .slice ao ks.length cap ∧ ks.length ≤ cap ∧ (0 < ks.length → ∃ gv cur, ao = some ⟨gv, 0, none⟩ ∧ B ≤ gv ∧ W.heap[gv]? = some (.cells cur TKey (0, 0)) ∧ ∀ (k : Nat) (x : Int), ks[k]? = some x → cur[k]? = some (kv x)) := by
  rcases h.2 with ⟨rfl, h0⟩ | ⟨gv, cap, cur, rfl, hb, hg, hc, _, hsz, ht⟩
  · exact ⟨none, 0, by rw [h0], by omega, fun h => by omega⟩
  · refine ⟨_, cap, rfl, hc, fun _ => ⟨gv, cur, rfl, hb, hg, fun k x hx => ?_⟩⟩
    have hk := (List.getElem?_eq_some_iff.1 hx).1
    have h1 := KV_get hx
    rw [← ht, List.getElem?_take, if_pos (by omega)] at h1
    rw [← h1]; simp

theorem gather_any {W : World} {b1 bo bm g : Nat} {L : List Ent} (h : RO W bo bm g L) (c1 : W.cell? ⟨b1, 0, none⟩ = some (.func (.func 120) #[] #[])) (hl1 : b1 < W.heap.size) (hlen : L.length * 8 ≤ 140737488355328) :
    Calls Tryz.prog 158 #[.pointer (some ⟨bo, 0, none⟩), .func (.func 159) #[] #[.pointer (some ⟨b1, 0, none⟩), .pointer (some ⟨W.heap.size, 0, none⟩)]] (W.alloc (.cells #[.slice none 0 0] TKeys)) fun r w' => r = .returned (.tuple #[]) ∧ Gath W.heap.size W.heap.size W w' (picked L) := by
  have hB0 : Below W.heap.size W (W.alloc (.cells #[.slice none 0 0] TKeys)) := (Below.refl _ W).alloc (Nat.le_refl _) _
  refine (walk_told (h.later hB0) _ _ (fun pre X => Gath W.heap.size W.heap.size W X (picked pre)) (fun _ _ => False) ⟨hB0, _, Boxed.new W TKeys _, World.ownsRow_nil _ _ _ _⟩ (fun pre X hJ => lowerRO h h.lt hJ.1) ?_).mono ?_
  · intro k e X he hJ
    have hk := (List.getElem?_eq_some_iff.1 he).1
    have hpl := picked_length (L.take k)
    rw [List.length_take] at hpl
    refine (cb_any h h.lt c1 hl1 (Nat.le_refl _) (Nat.le_refl _) hJ (List.mem_of_getElem? he) (by omega)).mono ?_
    rintro r X' ⟨rfl, hG⟩
    refine .inl ⟨rfl, ?_⟩
    have e1 : L.take (k + 1) = L.take k ++ [e] := by rw [List.take_add_one, he]; rfl
    rw [e1]
    by_cases hs : sel e = true
    · rw [picked_hit _ _ hs]; simpa [hs] using hG
    · have hs' : sel e = false := by simpa using hs
      rw [picked_miss _ _ hs']; simpa [hs'] using hG
  · rintro r w' ⟨rfl, (hJ | ⟨k, hk, hf⟩)⟩
    · exact ⟨rfl, hJ⟩
    · exact hf.elim

set_option maxHeartbeats 4000000 in
/-- what a ranging gives -/
theorem seq_any (n : Nat) (hn : 2 ≤ n) {Kp : World → World → Prop} {Fine : Nat → World → Prop} (HK : KeepsRow Kp Fine) {w : World} {b0 b1 bo bm g : Nat} {L : List Ent} (h : RO w bo bm g L)
    (c0 : w.cell? ⟨b0, 0, none⟩ = some (.pointer (some ⟨bo, 0, none⟩))) (c1 : w.cell? ⟨b1, 0, none⟩ = some (.func (.func 120) #[] #[])) (hl1 : b1 < w.heap.size) (hlen : L.length * 8 ≤ 140737488355328)
    (hF : ∀ (W w1 : World) (k : Nat), Below w.heap.size w W → Below W.heap.size W w1 → W.heap.size ≤ k → k < w1.heap.size → Fine k w1) :
    SeqStopsK Fence.wide n Tryz.prog 157 #[.pointer (some ⟨b0, 0, none⟩), .pointer (some ⟨b1, 0, none⟩)] (fun k => #[kv k]) Kp (fun xs => xs = picked L) (fun pre => ∃ rest, picked L = pre ++ rest) (picked L).length w := by
  intro l J Jx W hW hJ hJx hY h0
  have HP := gather_any (h.later hW) (cell_later hW c1) (Nat.lt_of_lt_of_le hl1 hW.size) hlen
  have d0 : (W.alloc (.cells #[.slice none 0 0] TKeys)).cell? ⟨b0, 0, none⟩ = some (.pointer (some ⟨bo, 0, none⟩)) := cell_later ((Below.refl _ W).alloc (Nat.le_refl _) _) (cell_later hW c0)
  have hmf : ∀ (fn : Fn) (first cap : Array Value) (w : World), (Instr.makeFunc fn first cap).run Tryz.prog w = .ok (.func fn first cap) w := fun _ _ _ _ => rfl
  obtain ⟨xs, hxs⟩ : ∃ xs, xs = picked L := ⟨_, rfl⟩
  have hpl := picked_length L
  rw [← hxs] at HP hY hpl ⊢
  obtain ⟨m, hm⟩ : ∃ m, m = xs.length := ⟨_, rfl⟩
  rw [← hm] at hY hpl
  have HM : Hid (m = xs.length) := hm
  have hml : m ≤ 17592186044416 := by omega
  have HP2 : Hid (Calls Tryz.prog 158 #[.pointer (some ⟨bo, 0, none⟩), .func (.func 159) #[] #[.pointer (some ⟨b1, 0, none⟩), .pointer (some ⟨W.heap.size, 0, none⟩)]] (W.alloc (.cells #[.slice none 0 0] TKeys)) fun r w' => r = .returned (.tuple #[]) ∧ Gath W.heap.size W.heap.size W w' xs) := HP
  have HF : Hid (∀ (W w1 : World) (k : Nat), Below w.heap.size w W → Below W.heap.size W w1 → W.heap.size ≤ k → k < w1.heap.size → Fine k w1) := hF
  have HW : Hid (Below w.heap.size w W) := hW
  have HJ0 : Hid (J [] W) := h0
  clear hm hxs h c0 c1 hpl hlen HP hF hl1 hW h0
  have hf : Fence.wide.fn 157 := trivial
  have hf2 : Fence.wide.fn 158 := trivial
  refine callsIn_of_wp Tryz.func157 rfl hf ?_ rfl
  simp only [Tryz.ntmps157, List.size_toArray, List.length_cons, List.length_nil, Nat.reduceAdd, Nat.reduceSub, Array.replicate_succ, Array.replicate_zero, List.push_toArray, List.append_toArray, List.nil_append, List.cons_append]
  have h1 : 1 ≤ n := by omega
  have h1' : 1 ≤ n - 1 := by omega
  gi_wp2_with (gi_at_call 158; refine (callsIn_wide.2 HP2.out).mono ?_; rintro e w1 ⟨rfl, hb, v, hbox, hown⟩; obtain ⟨ao, cap, rfl, hcap, hrf⟩ := row_form hown; have hcv := hbox.cell; rw [← HM.out] at hcv hcap hrf)
  have HFg : Hid (∀ k, W.heap.size ≤ k → k < w1.heap.size → Fine k w1) := fun k hk hk2 => HF.out W w1 k HW.out hb hk hk2
  have HJ1 : Hid (J [] w1) := hJ [] W w1 none HJ0.out ⟨hb.os, hb.tape, hb.output, hb.size, fun k hk _ => hb.block k hk⟩ (fun r e => by cases e)
  have hcap' : (m : Int) ≤ (cap : Int) := by omega
  by_cases hm0 : m = 0
  · have HE : Hid (xs = []) := by have := HM.out; exact List.length_eq_zero_iff.1 (by omega)
    subst hm0
    clear hcv hrf hbox hown hb HP2 d0 hcap'
    gi_loopw [12] (fun i wr => i = .int .i64 0 ∧ Hid (J [] wr)) (fun i _ => 0)
    case atStart => exact ⟨rfl, HJ1⟩
    case round =>
      obtain ⟨rfl, HJr⟩ := hrel
      gi_wp2
      go_end0
      exact ⟨⟨_, rfl⟩, .inl ⟨[], HE.out.symm, HJr.out⟩⟩
  · obtain ⟨gv, cur, rfl, hgv, hblk, hcells⟩ := hrf (by omega)
    have HB : Hid (w1.heap[gv]? = some (.cells cur TKey (0, 0)) ∧ Fine gv w1) := ⟨hblk, HFg.out gv hgv (Array.getElem?_eq_some_iff.1 hblk).1⟩
    have HC : Hid (∀ (k : Nat) (x : Int), xs[k]? = some x → cur[k]? = some (kv x)) := hcells
    clear hcv hrf hbox hown hb HP2 d0 hblk hcells HFg HF hgv
    gi_loopw [12] (fun i wr => ∃ (k : Nat), i = .int .i64 k ∧ k ≤ m ∧ Hid (wr.heap[gv]? = some (.cells cur TKey (0, 0)) ∧ Fine gv wr) ∧ Hid (J (xs.take k) wr)) (fun i _ => m - (intOf i).toNat)
    case atStart => exact ⟨0, rfl, Nat.zero_le _, HB, HJ1⟩
    case round =>
      obtain ⟨k, rfl, hk, HBk, HJk⟩ := hrel
      by_cases hlt2 : k < m
      · obtain ⟨x, hx⟩ : ∃ x, xs[k]? = some x := ⟨_, List.getElem?_eq_getElem (by have := HM.out; omega)⟩
        have z0 : wr.cell? ⟨gv, k, none⟩ = some (kv x) := by unfold World.cell?; simp only [HBk.out.1]; simpa using HC.out k x hx
        have hkz : (k : Int) < (m : Int) := by omega
        have HT : Hid (xs.take k ++ [x] = xs.take (k + 1)) := by
          show _ = _
          rw [List.take_add_one, hx]; rfl
        have hlen : (xs.take k).length < m := by rw [List.length_take]; have := HM.out; omega
        obtain ⟨fn, tmps, assign, body, hy, hR⟩ := hY (xs.take k) x _ HJk.out hlen
        rw [HT.out] at hR
        clear hx hlen hY
        gi_wp2
        refine hR.mono ?_
        rintro e W3 (⟨rfl, hJ3, hk3⟩ | ⟨rfl, hJx3⟩)
        · have HB3 : Hid (W3.heap[gv]? = some (.cells cur TKey (0, 0)) ∧ Fine gv W3) := HK.k hk3 HBk.out.2 HBk.out.1
          gi_wp2
          go_roundw
          case rel => exact ⟨k + 1, by go_num, by omega, HB3, hJ3⟩
          case measure => simp [intOf]; omega
        · gi_wp2
          refine bodyPost_ret (results_none rfl _ _ _) rfl ?_
          exact ⟨⟨_, rfl⟩, .inr ⟨xs.take (k + 1), ⟨xs.drop (k + 1), (List.take_append_drop _ _).symm⟩, hJx3⟩⟩
      · have e : k = m := by omega
        subst e
        have HE : Hid (xs.take k = xs) := by rw [HM.out]; exact List.take_length
        rw [HE.out] at HJk
        gi_wp2
        go_end0
        exact ⟨⟨_, rfl⟩, .inl ⟨xs, rfl, HJk.out⟩⟩
end Go.Proofs.YtlacligofhinmaaGreat.I.A

namespace Go.Proofs.YtlacligofhinmaaGreat.I.A
open Go.RowKit Go.Maps Go.Shelf Go.Proofs.YtlacligofhinmaaGreat.I
attribute [local go_sem] Oper.semAt_some
set_option linter.unusedVariables false
set_option linter.unusedSimpArgs false
set_option maxRecDepth 100000

abbrev TPo : TypeId := 108
abbrev TPf : TypeId := 180
theorem func_any (w : World) (m : Option Addr) : Calls Tryz.prog 92 #[.pointer m] w fun e w' =>
    e = .returned (.func (.func 157) #[] #[.pointer (some ⟨w.heap.size, 0, none⟩), .pointer (some ⟨w.heap.size + 1, 0, none⟩)]) ∧ w' = (w.alloc (.cells #[.pointer m] TPo)).alloc (.cells #[.func (.func 120) #[] #[]] TPf) := by
  have hmf : ∀ (fn : Fn) (first cap : Array Value) (w : World), (Instr.makeFunc fn first cap).run Tryz.prog w = .ok (.func fn first cap) w := fun _ _ _ _ => rfl
  have ht : ∀ (w : World) (fn : Fn) (fa fb : Array Value), Calls Tryz.prog 119 #[.pointer m, .func fn fa fb] w fun e w' =>
    e = .returned (.func (.func 157) #[] #[.pointer (some ⟨w.heap.size, 0, none⟩), .pointer (some ⟨w.heap.size + 1, 0, none⟩)]) ∧ w' = (w.alloc (.cells #[.pointer m] TPo)).alloc (.cells #[.func fn fa fb] TPf) := by
    intro w fn fa fb
    go_enter Tryz.func119, Tryz.ntmps119
    go_wp2
    go_ret
    exact ⟨rfl, rfl⟩
  go_enter Tryz.func92, Tryz.ntmps92
  go_wp2_with (go_at_call 119; refine (ht _ _ _ _).mono ?_; rintro e w9 ⟨rfl, hw9⟩; rw [hw9]; clear hw9)
  go_ret
  exact ⟨rfl, rfl⟩

/-- no row of the list that the body gathers -/
def FineL (Bl k : Nat) (W : World) : Prop := ∃ v, Boxed W Bl TKeys v ∧ v.ownBlock ≠ some k
def KpL (Bl : Nat) (W W' : World) : Prop := ∀ (k : Nat) (cur : Array Value) (fr : Nat × Nat), FineL Bl k W → W.heap[k]? = some (.cells cur TKey fr) → W'.heap[k]? = some (.cells cur TKey fr) ∧ FineL Bl k W'
theorem kpL_row (Bl : Nat) : KeepsRow (KpL Bl) (FineL Bl) := ⟨fun h hf hc => h _ _ _ hf hc⟩
theorem kpL_refl (Bl : Nat) (W : World) : KpL Bl W W := fun _ _ _ hf hc => ⟨hc, hf⟩
theorem kpL_t {Bl : Nat} {A B C : World} (h : KpL Bl A B) (k : KpL Bl B C) : KpL Bl A C := fun i cur fr hf hi => k i cur fr (h i cur fr hf hi).2 (h i cur fr hf hi).1
theorem kpL_b {w : World} {Bl : Nat} (W : World) (l : Nat) (o o' : Obj) (_ : w.heap.size ≤ l) (h : W.heap[l]? = some o) (hc : o.isCells = false) (_ : o.isWalk = false) : KpL Bl W (W.putObj l o') := fun i cur fr hf hi => by
  have hne : ∀ {i : Nat} {cur : Array Value} {T : TypeId} {fr : Nat × Nat}, W.heap[i]? = some (.cells cur T fr) → i ≠ l := by
    rintro i cur T fr hi rfl
    rw [h] at hi
    cases hi
    simp [Obj.isCells] at hc
  obtain ⟨v, hb, hv⟩ := hf
  exact ⟨(World.putObj_heap_other (hne hi)).trans hi, v, (World.putObj_heap_other (hne hb)).trans hb, hv⟩
theorem kpL_below {Bl : Nat} {W W' : World} (h : Below W.heap.size W W') : KpL Bl W W' := fun i cur fr hf hi => by
  obtain ⟨v, hb, hv⟩ := hf
  exact ⟨(h.block i (Array.getElem?_eq_some_iff.1 hi).1).trans hi, v, (h.block Bl hb.lt).trans hb, hv⟩
/-- what 'l = append(l, k)' leaves -/
theorem kpL_app {Bl : Nat} {W w1 : World} {v v' : Value} {tmp : Obj} (hbx : Boxed W Bl TKeys v) (hg : (W.alloc tmp).grownBy w1 v.ownBlock) (hb1 : Boxed w1 Bl TKeys v) (hv' : ∀ k, v'.ownBlock = some k → v.ownBlock = some k ∨ W.heap.size ≤ k) : KpL Bl W (w1.setCell ⟨Bl, 0, none⟩ v') := fun i cur fr hf hi => by
  obtain ⟨u, hb, hv⟩ := hf
  have eu : u = v := by
    have := (show W.heap[Bl]? = _ from hb).symm.trans hbx
    simp at this; exact this
  subst eu
  have hlt := (Array.getElem?_eq_some_iff.1 hi).1
  have hne : i ≠ Bl := by
    rintro rfl
    have := hi.symm.trans hb
    simp at this
    exact absurd this.2.1 (by decide)
  have h1 : w1.heap[i]? = some (.cells cur TKey fr) := (hg.block i (by rw [World.size_alloc]; omega) (fun e => hv e.symm)).trans ((Below.heap_alloc _ _ _ hlt).trans hi)
  exact ⟨(Below.heap_setCell _ _ _ _ hne).trans h1, v', hb1.set v', fun e => (hv' i e).elim hv (fun h => by omega)⟩
theorem news1 (W : World) (a : Value) : ∀ j u, [a][j]? = some u → (W.alloc (.cells #[a] TKey)).cell? ((⟨W.heap.size, 0, none⟩ : Addr).add j) = some u := World.news_of_block (heap_alloc_new W _)

end Go.Proofs.YtlacligofhinmaaGreat.I.A

namespace Go.Proofs.YtlacligofhinmaaGreat.I.A
open Go.RowKit Go.Maps Go.Shelf Go.Proofs.YtlacligofhinmaaGreat.I
attribute [local go_sem] Oper.semAt_some
set_option linter.unusedVariables false
set_option linter.unusedSimpArgs false
set_option maxRecDepth 100000

set_option maxHeartbeats 4000000 in
/-- what a ranging gives, to elements of any type that stand for the keys -/
theorem seq_gen {α : Type} (T : α → Int) (zs : List α) (n : Nat) (hn : 2 ≤ n) {Kp : World → World → Prop} {Fine : Nat → World → Prop} (HK : KeepsRow Kp Fine) {w : World} {b0 b1 bo bm g : Nat} {L : List Ent} (h : RO w bo bm g L) (hz : picked L = zs.map T)
    (c0 : w.cell? ⟨b0, 0, none⟩ = some (.pointer (some ⟨bo, 0, none⟩))) (c1 : w.cell? ⟨b1, 0, none⟩ = some (.func (.func 120) #[] #[])) (hl1 : b1 < w.heap.size) (hlen : L.length * 8 ≤ 140737488355328)
    (hF : ∀ (W w1 : World) (k : Nat), Below w.heap.size w W → Below W.heap.size W w1 → W.heap.size ≤ k → k < w1.heap.size → Fine k w1) :
    SeqStopsK Fence.wide n Tryz.prog 157 #[.pointer (some ⟨b0, 0, none⟩), .pointer (some ⟨b1, 0, none⟩)] (fun a => #[kv (T a)]) Kp (fun ys => ys = zs) (fun pre => ∃ rest, zs = pre ++ rest) zs.length w := by
  intro l J Jx W hW hJ hJx hY h0
  have HP := gather_any (h.later hW) (cell_later hW c1) (Nat.lt_of_lt_of_le hl1 hW.size) hlen
  have d0 : (W.alloc (.cells #[.slice none 0 0] TKeys)).cell? ⟨b0, 0, none⟩ = some (.pointer (some ⟨bo, 0, none⟩)) := cell_later ((Below.refl _ W).alloc (Nat.le_refl _) _) (cell_later hW c0)
  have hmf : ∀ (fn : Fn) (first cap : Array Value) (w : World), (Instr.makeFunc fn first cap).run Tryz.prog w = .ok (.func fn first cap) w := fun _ _ _ _ => rfl
  obtain ⟨xs, hxs⟩ : ∃ xs, xs = zs.map T := ⟨_, rfl⟩
  have hpl := picked_length L
  rw [hz, ← hxs] at HP hpl
  obtain ⟨m, hm⟩ : ∃ m, m = zs.length := ⟨_, rfl⟩
  have hxl : xs.length = m := by rw [hxs, hm, List.length_map]
  rw [hxl] at hpl
  rw [← hm] at hY
  have HM : Hid (m = xs.length) := hxl.symm
  have HMz : Hid (m = zs.length) := hm
  have HXZ : Hid (xs = zs.map T) := hxs
  have hml : m ≤ 17592186044416 := by omega
  have HP2 : Hid (Calls Tryz.prog 158 #[.pointer (some ⟨bo, 0, none⟩), .func (.func 159) #[] #[.pointer (some ⟨b1, 0, none⟩), .pointer (some ⟨W.heap.size, 0, none⟩)]] (W.alloc (.cells #[.slice none 0 0] TKeys)) fun r w' => r = .returned (.tuple #[]) ∧ Gath W.heap.size W.heap.size W w' xs) := HP
  have HF : Hid (∀ (W w1 : World) (k : Nat), Below w.heap.size w W → Below W.heap.size W w1 → W.heap.size ≤ k → k < w1.heap.size → Fine k w1) := hF
  have HW : Hid (Below w.heap.size w W) := hW
  have HJ0 : Hid (J [] W) := h0
  clear hm hxs hxl hz h c0 c1 hpl hlen HP hF hl1 hW h0
  have hf : Fence.wide.fn 157 := trivial
  have hf2 : Fence.wide.fn 158 := trivial
  refine callsIn_of_wp Tryz.func157 rfl hf ?_ rfl
  simp only [Tryz.ntmps157, List.size_toArray, List.length_cons, List.length_nil, Nat.reduceAdd, Nat.reduceSub, Array.replicate_succ, Array.replicate_zero, List.push_toArray, List.append_toArray, List.nil_append, List.cons_append]
  have h1 : 1 ≤ n := by omega
  have h1' : 1 ≤ n - 1 := by omega
  gi_wp2_with (gi_at_call 158; refine (callsIn_wide.2 HP2.out).mono ?_; rintro e w1 ⟨rfl, hb, v, hbox, hown⟩; obtain ⟨ao, cap, rfl, hcap, hrf⟩ := row_form hown; have hcv := hbox.cell; rw [← HM.out] at hcv hcap hrf)
  have HFg : Hid (∀ k, W.heap.size ≤ k → k < w1.heap.size → Fine k w1) := fun k hk hk2 => HF.out W w1 k HW.out hb hk hk2
  have HJ1 : Hid (J [] w1) := hJ [] W w1 none HJ0.out ⟨hb.os, hb.tape, hb.output, hb.size, fun k hk _ => hb.block k hk⟩ (fun r e => by cases e)
  have hcap' : (m : Int) ≤ (cap : Int) := by omega
  by_cases hm0 : m = 0
  · have HE : Hid (zs = []) := by have := HMz.out; exact List.length_eq_zero_iff.1 (by omega)
    subst hm0
    clear hcv hrf hbox hown hb HP2 d0 hcap'
    gi_loopw [12] (fun i wr => i = .int .i64 0 ∧ Hid (J [] wr)) (fun i _ => 0)
    case atStart => exact ⟨rfl, HJ1⟩
    case round =>
      obtain ⟨rfl, HJr⟩ := hrel
      gi_wp2
      go_end0
      exact ⟨⟨_, rfl⟩, .inl ⟨[], HE.out.symm, HJr.out⟩⟩
  · obtain ⟨gv, cur, rfl, hgv, hblk, hcells⟩ := hrf (by omega)
    have HB : Hid (w1.heap[gv]? = some (.cells cur TKey (0, 0)) ∧ Fine gv w1) := ⟨hblk, HFg.out gv hgv (Array.getElem?_eq_some_iff.1 hblk).1⟩
    have HC : Hid (∀ (k : Nat) (x : Int), xs[k]? = some x → cur[k]? = some (kv x)) := hcells
    clear hcv hrf hbox hown hb HP2 d0 hblk hcells HFg HF hgv
    gi_loopw [12] (fun i wr => ∃ (k : Nat), i = .int .i64 k ∧ k ≤ m ∧ Hid (wr.heap[gv]? = some (.cells cur TKey (0, 0)) ∧ Fine gv wr) ∧ Hid (J (zs.take k) wr)) (fun i _ => m - (intOf i).toNat)
    case atStart => exact ⟨0, rfl, Nat.zero_le _, HB, HJ1⟩
    case round =>
      obtain ⟨k, rfl, hk, HBk, HJk⟩ := hrel
      by_cases hlt2 : k < m
      · obtain ⟨x, hx⟩ : ∃ x, zs[k]? = some x := ⟨_, List.getElem?_eq_getElem (by have := HMz.out; omega)⟩
        have z0 : wr.cell? ⟨gv, k, none⟩ = some (kv (T x)) := by unfold World.cell?; simp only [HBk.out.1]; simpa using HC.out k (T x) (by rw [HXZ.out, List.getElem?_map, hx]; rfl)
        have hkz : (k : Int) < (m : Int) := by omega
        have HT : Hid (zs.take k ++ [x] = zs.take (k + 1)) := by
          show _ = _
          rw [List.take_add_one, hx]; rfl
        have hlen : (zs.take k).length < m := by rw [List.length_take]; have := HMz.out; omega
        obtain ⟨fn, tmps, assign, body, hy, hR⟩ := hY (zs.take k) x _ HJk.out hlen
        rw [HT.out] at hR
        clear hx hlen hY
        gi_wp2
        refine hR.mono ?_
        rintro e W3 (⟨rfl, hJ3, hk3⟩ | ⟨rfl, hJx3⟩)
        · have HB3 : Hid (W3.heap[gv]? = some (.cells cur TKey (0, 0)) ∧ Fine gv W3) := HK.k hk3 HBk.out.2 HBk.out.1
          gi_wp2
          go_roundw
          case rel => exact ⟨k + 1, by go_num, by omega, HB3, hJ3⟩
          case measure => simp [intOf]; omega
        · gi_wp2
          refine bodyPost_ret (results_none rfl _ _ _) rfl ?_
          exact ⟨⟨_, rfl⟩, .inr ⟨zs.take (k + 1), ⟨zs.drop (k + 1), (List.take_append_drop _ _).symm⟩, hJx3⟩⟩
      · have e : k = m := by omega
        subst e
        have HE : Hid (zs.take k = zs) := by rw [HMz.out]; exact List.take_length
        rw [HE.out] at HJk
        gi_wp2
        go_end0
        exact ⟨⟨_, rfl⟩, .inl ⟨zs, rfl, HJk.out⟩⟩
end Go.Proofs.YtlacligofhinmaaGreat.I.A

namespace Go.Proofs.YtlacligofhinmaaGreat
variable {F : Fence} {n : Nat} {P : Program} {C : World → Prop} {ops : Array Oper}
/-- no operation defers -/
def NoDefer (ops : Array Oper) : Bool := ops.all fun o => match o.op with | .defer _ => false | _ => true
theorem noDefer_at {ops : Array Oper} (h : NoDefer ops = true) {i : Nat} {o : Oper} (ho : ops[i]? = some o) : ∀ c, o.op ≠ .defer c := by
  intro c hc
  unfold NoDefer at h
  rw [Array.all_eq_true] at h
  obtain ⟨hi, rfl⟩ := Array.getElem?_eq_some_iff.1 ho
  have := h i hi
  rw [hc] at this
  cases this
theorem semAt_any (ro : Option Nat) (ρ : Operand → Value) (o : Oper) (h : ∀ c, o.op ≠ .defer c) : Oper.semAt ro ρ o = execOp ρ o := by
  cases ro with
  | none => exact Oper.semAt_none _ _
  | some l => exact Oper.semAt_some l ρ o h
theorem oper_quiet {o : Oper} {a : Act} {K : Act → Prop} {K' : Act → World → Prop} {Q' : Exit → Act → World → Prop} {w : World} (hnd : ∀ c, o.op ≠ .defer c) (hw : C w) (h : ∀ a w', C w' → K a → K' a w')
    (ha : o.askedIn F P a C) (hh : o.quietIn F n P a C K) : o.wpIn F n P a w K' Q' := by
  obtain ⟨v, h1, h2⟩ := hh
  have h3 := h1 w hw
  unfold Oper.quietAtIn at h3
  unfold Oper.wpIn
  refine ⟨ha w hw, ?_⟩
  rw [semAt_any F.round a.eval o hnd]
  generalize (execOp a.eval o).run P w = r at *
  cases r with
  | ok x w' =>
    cases x <;> simp only [Oper.quietUponIn] at h3 <;> simp only [Oper.uponIn]
    case value u =>
      obtain ⟨e1, e2⟩ := h3
      rw [e1, e2]
      exact h _ _ hw h2
    case skip =>
      obtain ⟨e1, e2⟩ := h3
      rw [e1, ← e2]
      exact h _ _ hw h2
    case enter f args =>
      obtain ⟨e1, hd, hc⟩ := h3
      rw [e1]
      exact ⟨hd, hc.mono fun e w'' ⟨he, hw''⟩ => by subst he; exact h _ _ hw'' h2⟩
  | halt x w' => simp only [Oper.quietUponIn] at h3
theorem op_quiet (hnd : NoDefer ops = true) {i : Nat} {a : Act} {K : Act → Prop} {K' : Act → World → Prop} {Q' : Exit → Act → World → Prop} {w : World} (hC : C w) (h : ∀ a w', C w' → K a → K' a w')
    (hh : qOpIn F n P ops C i K a) : wpOpIn F n P ops Q' i K' a w := by
  unfold qOpIn at hh
  unfold wpOpIn
  split
  · rename_i ho; simp only [ho] at hh; exact h _ _ hC hh
  · rename_i o ho
    simp only [ho] at hh
    obtain ⟨ha, hh⟩ := hh
    split
    · rename_i hw; simp only [hw, if_true] at hh; exact oper_quiet (noDefer_at hnd ho) hC h ha hh
    · rename_i hw; simp only [hw] at hh; exact ⟨ha w hC, h _ _ hC hh⟩
theorem any_quiet {md : Region.Mode} (hnd : NoDefer ops = true) {Q : Act → Prop} {Q' : Exit → Act → World → Prop} (hQ : ∀ a w, C w → Q a → Q' .normal a w) : ∀ (fuel : Nat) (listed : Array Bool) (a : Act) (w : World), C w →
    wpAnyQIn F n P md ops C Q fuel listed a → wpAnyIn F n P md ops Q' fuel listed a w
  | 0, _, _, _, hw, h => ⟨h.1, hQ _ _ hw h.2⟩
  | fuel + 1, _, _, _, hw, h => ⟨fun h0 => hQ _ _ hw (h.1 h0), fun i hi => op_quiet hnd hw (fun a' w' hw' => any_quiet hnd hQ fuel _ a' w' hw') (h.2 i hi)⟩
/-- a quiet region, in a round too -/
theorem region_quiet {id : Nat} {Q : Exit → Act → World → Prop} {a : Act} {w : World} {l : List Oper} (hnd : NoDefer l.toArray = true) (hm : P.follows .mixedOrders = true) (hB : Region.lexB .any l.toArray = true)
    (h : wpQuietIn F n P l.toArray (fun w' => ∃ n, w' = w.drewN n) (fun a' => ∀ w', (∃ n, w' = w.drewN n) → Q .normal a' w') l a) : (Code.region id l.toArray true).wpIn F n P Q a w := by
  simp only [Region.lexB, Bool.and_eq_true] at hB
  refine wpIn_region_any hm (any_quiet (C := fun w' => ∃ n, w' = w.drewN n) (Q := fun a' => ∀ w', (∃ n, w' = w.drewN n) → Q .normal a' w') hnd (fun _ w' hw' h => h w' hw') _ _ _ _ ⟨1, rfl⟩ ?_)
  have := wpAnyQIn_lex (F := F) (n := n) (C := fun w' => ∃ n, w' = w.drewN n) (md := .any) hB.1 l 0 (Array.replicate l.length false) a (by simp) (by simpa using hB.2) h
  simpa using this
/-- a class of worlds, as a type -/
structure CW (C : World → Prop) where
  x : World
  h : C x
/-- a region whose calls lead from a class of worlds into it -/
theorem region_quietC {id : Nat} {D : World → Prop} {Q : Exit → Act → World → Prop} {a : Act} {w : World} {l : List Oper} (hnd : NoDefer l.toArray = true) (hm : P.follows .mixedOrders = true) (hB : Region.lexB .any l.toArray = true) (h0 : D w.drew)
    (h : wpQuietIn F n P l.toArray (fun w' => ∃ p : CW D, w' = p.x) (fun a' => ∀ w', (∃ p : CW D, w' = p.x) → Q .normal a' w') l a) : (Code.region id l.toArray true).wpIn F n P Q a w := by
  simp only [Region.lexB, Bool.and_eq_true] at hB
  refine wpIn_region_any hm (any_quiet (C := fun w' => ∃ p : CW D, w' = p.x) (Q := fun a' => ∀ w', (∃ p : CW D, w' = p.x) → Q .normal a' w') hnd (fun _ w' hw' h => h w' hw') _ _ _ _ ⟨⟨_, h0⟩, rfl⟩ ?_)
  have := wpAnyQIn_lex (F := F) (n := n) (C := fun w' => ∃ p : CW D, w' = p.x) (md := .any) hB.1 l 0 (Array.replicate l.length false) a (by simp) (by simpa using hB.2) h
  simpa using this
theorem mixed : Tryz.prog.follows .mixedOrders = true := by kernel_rfl
end Go.Proofs.YtlacligofhinmaaGreat

namespace Go.Proofs
open Go.Shelf
def Tryz.lays215_ren : Go.Shelf.Ren := ⟨fun | 215 => 134 | n => n, fun | 3 => 3 | 4 => 4 | n => n, fun | n => n⟩
theorem Tryz.lays215 : Go.Proofs.Lays.n215 Tryz.prog Tryz.lays215_ren := {
  mixed := by kernel_rfl
  f215 := Tryz.func134.trans (congrArg some (by kernel_rfl))
  t3 := Tryz.underlying3
  a3 := Tryz.isAgg3
  z3 := Tryz.sizeOf3
  v3 := Tryz.zeroValue3
  t4 := Tryz.underlying4
  a4 := Tryz.isAgg4
  z4 := Tryz.sizeOf4
  v4 := Tryz.zeroValue4 }
open Go.RowKit in
theorem Tryz.cmp_isNaN_int (x : Int) (w : World) :
    Calls Tryz.prog 134 #[.int .i64 x] w fun e w' => e = .returned (.bool false) ∧ w' = w := Any.cmp_isNaN_int Tryz.lays215 x w
def Tryz.lays122_ren : Go.Shelf.Ren := ⟨fun | 122 => 107 | 215 => 134 | n => n, fun | 3 => 3 | 4 => 4 | n => n, fun | n => n⟩
theorem Tryz.lays122 : Go.Proofs.Lays.n122 Tryz.prog Tryz.lays122_ren := {
  mixed := by kernel_rfl
  f122 := Tryz.func107.trans (congrArg some (by kernel_rfl))
  f215 := Tryz.func134.trans (congrArg some (by kernel_rfl))
  t3 := Tryz.underlying3
  a3 := Tryz.isAgg3
  z3 := Tryz.sizeOf3
  v3 := Tryz.zeroValue3
  t4 := Tryz.underlying4
  a4 := Tryz.isAgg4
  z4 := Tryz.sizeOf4
  v4 := Tryz.zeroValue4 }
open Go.RowKit in
theorem Tryz.cmp_Compare_int (x y : Int) (w : World) :
    Calls Tryz.prog 107 #[.int .i64 x, .int .i64 y] w fun e w' => e = .returned (.int .i64 (Lib.compareInt x y)) ∧ w' = w := Any.cmp_Compare_int Tryz.lays122 x y w
def Tryz.lays189_ren : Go.Shelf.Ren := ⟨fun | 189 => 71 | 125 => 112 | 257 => 111 | 128 => 153 | 129 => 154 | 294 => 144 | 295 => 145 | 296 => 146 | 297 => 147 | 298 => 148 | 299 => 149 | 216 => 150 | 300 => 151 | 301 => 152 | 328 => 172 | 329 => 173 | 330 => 174 | 331 => 175 | 332 => 176 | 215 => 134 | 343 => 186 | n => n, fun | 28 => 39 | 3 => 3 | 46 => 177 | 0 => 0 | 51 => 117 | 53 => 91 | 4 => 4 | 183 => 202 | 182 => 201 | 131 => 145 | 5 => 5 | 9 => 9 | 218 => 222 | 222 => 226 | 228 => 234 | 229 => 84 | n => n, fun | n => n⟩
theorem Tryz.lays189 : Go.Proofs.Lays.n189 Tryz.prog Tryz.lays189_ren := {
  mixed := by kernel_rfl
  f125 := Tryz.func112.trans (congrArg some (by kernel_rfl))
  f128 := Tryz.func153.trans (congrArg some (by kernel_rfl))
  f129 := Tryz.func154.trans (congrArg some (by kernel_rfl))
  f189 := Tryz.func71.trans (congrArg some (by kernel_rfl))
  f215 := Tryz.func134.trans (congrArg some (by kernel_rfl))
  f216 := Tryz.func150.trans (congrArg some (by kernel_rfl))
  f257 := Tryz.func111.trans (congrArg some (by kernel_rfl))
  f294 := Tryz.func144.trans (congrArg some (by kernel_rfl))
  f295 := Tryz.func145.trans (congrArg some (by kernel_rfl))
  f296 := Tryz.func146.trans (congrArg some (by kernel_rfl))
  f297 := Tryz.func147.trans (congrArg some (by kernel_rfl))
  f298 := Tryz.func148.trans (congrArg some (by kernel_rfl))
  f299 := Tryz.func149.trans (congrArg some (by kernel_rfl))
  f300 := Tryz.func151.trans (congrArg some (by kernel_rfl))
  f301 := Tryz.func152.trans (congrArg some (by kernel_rfl))
  f328 := Tryz.func172.trans (congrArg some (by kernel_rfl))
  f329 := Tryz.func173.trans (congrArg some (by kernel_rfl))
  f330 := Tryz.func174.trans (congrArg some (by kernel_rfl))
  f331 := Tryz.func175.trans (congrArg some (by kernel_rfl))
  f332 := Tryz.func176.trans (congrArg some (by kernel_rfl))
  f343 := Tryz.func186.trans (congrArg some (by kernel_rfl))
  t0 := Tryz.underlying0
  a0 := Tryz.isAgg0
  z0 := Tryz.sizeOf0
  v0 := Tryz.zeroValue0
  t3 := Tryz.underlying3
  a3 := Tryz.isAgg3
  z3 := Tryz.sizeOf3
  v3 := Tryz.zeroValue3
  t4 := Tryz.underlying4
  a4 := Tryz.isAgg4
  z4 := Tryz.sizeOf4
  v4 := Tryz.zeroValue4
  t5 := Tryz.underlying5
  a5 := Tryz.isAgg5
  z5 := Tryz.sizeOf5
  v5 := Tryz.zeroValue5
  t9 := Tryz.underlying9
  a9 := Tryz.isAgg9
  z9 := Tryz.sizeOf9
  v9 := Tryz.zeroValue9
  t28 := Tryz.underlying39
  a28 := Tryz.isAgg39
  z28 := Tryz.sizeOf39
  v28 := Tryz.zeroValue39
  t46 := Tryz.underlying177
  a46 := Tryz.isAgg177
  z46 := Tryz.sizeOf177
  v46 := Tryz.zeroValue177
  t51 := Tryz.underlying117
  a51 := Tryz.isAgg117
  z51 := Tryz.sizeOf117
  v51 := Tryz.zeroValue117
  t53 := Tryz.underlying91
  a53 := Tryz.isAgg91
  z53 := Tryz.sizeOf91
  v53 := Tryz.zeroValue91
  t131 := Tryz.underlying145
  a131 := Tryz.isAgg145
  z131 := Tryz.sizeOf145
  v131 := Tryz.zeroValue145
  t182 := Tryz.underlying201
  a182 := Tryz.isAgg201
  z182 := Tryz.sizeOf201
  v182 := Tryz.zeroValue201
  t183 := Tryz.underlying202
  a183 := Tryz.isAgg202
  z183 := Tryz.sizeOf202
  v183 := Tryz.zeroValue202
  t218 := Tryz.underlying222
  a218 := Tryz.isAgg222
  z218 := Tryz.sizeOf222
  v218 := Tryz.zeroValue222
  t222 := Tryz.underlying226
  a222 := Tryz.isAgg226
  z222 := Tryz.sizeOf226
  v222 := Tryz.zeroValue226
  t228 := Tryz.underlying234
  a228 := Tryz.isAgg234
  z228 := Tryz.sizeOf234
  v228 := Tryz.zeroValue234
  t229 := Tryz.underlying84
  a229 := Tryz.isAgg84
  z229 := Tryz.sizeOf84
  v229 := Tryz.zeroValue84 }
open Go.Sort Go.RowKit in
theorem Tryz.slices_Sort_int (blk off cap : Nat) (zs : List Int) (w : World) (hH : Holds (Value.int .i64) w blk off zs.toArray) (hblk : blk < w.heap.size) (hsz : zs.length < 4611686018427387904) :
    Calls Tryz.prog 71 #[.slice (some ⟨blk, off, none⟩) zs.length cap] w fun e w' =>
      e = .returned (.tuple #[]) ∧ ∃ n os, w' = grow (putRow (Value.int .i64) (Sort.ahead w n) blk off (zs.mergeSort fun x y => decide (x ≤ y)).toArray) os := Any.slices_Sort_int Tryz.lays189 blk off cap zs w hH hblk hsz
def Tryz.laysNm220_ren : Go.Shelf.Ren := ⟨fun | 20 => 72 | n => n, fun | 22 => 39 | 3 => 3 | 4 => 4 | 0 => 0 | n => n, fun | n => n⟩
theorem Tryz.laysNm220 : Go.Proofs.Lays2.n20 Tryz.prog Tryz.laysNm220_ren := {
  mixed := by kernel_rfl
  f20 := Tryz.func72.trans (congrArg some (by kernel_rfl))
  t0 := Tryz.underlying0
  a0 := Tryz.isAgg0
  z0 := Tryz.sizeOf0
  v0 := Tryz.zeroValue0
  t3 := Tryz.underlying3
  a3 := Tryz.isAgg3
  z3 := Tryz.sizeOf3
  v3 := Tryz.zeroValue3
  t4 := Tryz.underlying4
  a4 := Tryz.isAgg4
  z4 := Tryz.sizeOf4
  v4 := Tryz.zeroValue4
  t22 := Tryz.underlying39
  a22 := Tryz.isAgg39
  z22 := Tryz.sizeOf39
  v22 := Tryz.zeroValue39
  i3 := by kernel_rfl }
open Go.RowKit Go.Lib Go.Sort in
theorem Tryz.slices_Compact_int (blk off cap : Nat) (zs : List Int) (w : World) (hH : Holds (Value.int .i64) w blk off zs.toArray) (hsz : zs.length ≤ 9223372036854775807) (hcap : zs.length ≤ cap) :
    Calls Tryz.prog 72 #[.slice (some ⟨blk, off, none⟩) zs.length cap] w fun e w' => e = .returned (.slice (some ⟨blk, off, none⟩) (Lib.compact zs).length cap) ∧ ∃ q, w' = putRow (Value.int .i64) (Sort.ahead w q) blk off (Lib.compact zs ++ List.replicate (zs.length - (Lib.compact zs).length) 0).toArray := Any.slices_Compact_int Tryz.laysNm220 blk off cap zs w hH hsz hcap
open Go.RowKit Go.Lib Go.Sort in
theorem Tryz.slices_Compact_int_empty (a : Option Addr) (cap : Nat) (w : World) :
    Calls Tryz.prog 72 #[.slice a 0 cap] w fun e w' => e = .returned (.slice a 0 cap) ∧ w' = w := Any.slices_Compact_int_empty Tryz.laysNm220 a cap w
open Go.RowKit Go.Sort in
theorem Tryz.slices_Sort_int_none (p : Option Addr) (cap : Nat) (w : World) :
    Calls Tryz.prog 71 #[.slice p 0 cap] w fun e w' => e = .returned (.tuple #[]) ∧ w' = w := Any.slices_Sort_int_none Tryz.lays189 p cap w
end Go.Proofs

namespace Go.Proofs
open Go.Shelf
def Tryz.cloneS_ren : Go.Shelf.Ren := ⟨fun | 41 => 58 | n => n, fun | 22 => 22 | 23 => 68 | 4 => 4 | n => n, fun | n => n⟩
theorem Tryz.cloneS : Go.Proofs.SlLaysE0.n41 Tryz.prog Tryz.cloneS_ren := {
  mixed := by kernel_rfl
  f41 := ⟨Tryz.f58.name, by decide, Tryz.func58.trans (congrArg some (by kernel_rfl))⟩
  t4 := Tryz.underlying4
  a4 := Tryz.isAgg4
  z4 := Tryz.sizeOf4
  v4 := Tryz.zeroValue4
  t22 := Tryz.underlying22
  a22 := Tryz.isAgg22
  z22 := Tryz.sizeOf22
  v22 := Tryz.zeroValue22 }
def Tryz.sortS_ren : Go.Shelf.Ren := ⟨fun | 6 => 132 | 15 => 112 | 14 => 164 | 28 => 153 | 29 => 154 | 20 => 178 | 21 => 179 | 22 => 180 | 23 => 181 | 24 => 182 | 25 => 183 | 26 => 184 | 27 => 185 | 46 => 187 | 47 => 173 | 48 => 174 | 49 => 188 | 50 => 189 | 57 => 190 | n => n, fun | 22 => 22 | 24 => 68 | 25 => 167 | 3 => 3 | 39 => 177 | 0 => 0 | 53 => 117 | 55 => 91 | 4 => 4 | 46 => 202 | 45 => 201 | 50 => 145 | 5 => 5 | 9 => 9 | 66 => 222 | 70 => 226 | 76 => 234 | 77 => 84 | n => n, fun | n => n⟩
theorem Tryz.sortS : Go.Proofs.SlLaysF0.n6 Tryz.prog Tryz.sortS_ren := {
  mixed := by kernel_rfl
  f6 := ⟨Tryz.f132.name, by decide, Tryz.func132.trans (congrArg some (by kernel_rfl))⟩
  f14 := ⟨Tryz.f164.name, by decide, Tryz.func164.trans (congrArg some (by kernel_rfl))⟩
  f15 := Tryz.func112.trans (congrArg some (by kernel_rfl))
  f20 := ⟨Tryz.f178.name, by decide, Tryz.func178.trans (congrArg some (by kernel_rfl))⟩
  f21 := ⟨Tryz.f179.name, by decide, Tryz.func179.trans (congrArg some (by kernel_rfl))⟩
  f22 := ⟨Tryz.f180.name, by decide, Tryz.func180.trans (congrArg some (by kernel_rfl))⟩
  f23 := ⟨Tryz.f181.name, by decide, Tryz.func181.trans (congrArg some (by kernel_rfl))⟩
  f24 := ⟨Tryz.f182.name, by decide, Tryz.func182.trans (congrArg some (by kernel_rfl))⟩
  f25 := ⟨Tryz.f183.name, by decide, Tryz.func183.trans (congrArg some (by kernel_rfl))⟩
  f26 := ⟨Tryz.f184.name, by decide, Tryz.func184.trans (congrArg some (by kernel_rfl))⟩
  f27 := ⟨Tryz.f185.name, by decide, Tryz.func185.trans (congrArg some (by kernel_rfl))⟩
  f28 := Tryz.func153.trans (congrArg some (by kernel_rfl))
  f29 := Tryz.func154.trans (congrArg some (by kernel_rfl))
  f46 := ⟨Tryz.f187.name, by decide, Tryz.func187.trans (congrArg some (by kernel_rfl))⟩
  f47 := Tryz.func173.trans (congrArg some (by kernel_rfl))
  f48 := Tryz.func174.trans (congrArg some (by kernel_rfl))
  f49 := ⟨Tryz.f188.name, by decide, Tryz.func188.trans (congrArg some (by kernel_rfl))⟩
  f50 := ⟨Tryz.f189.name, by decide, Tryz.func189.trans (congrArg some (by kernel_rfl))⟩
  f57 := ⟨Tryz.f190.name, by decide, Tryz.func190.trans (congrArg some (by kernel_rfl))⟩
  t0 := Tryz.underlying0
  a0 := Tryz.isAgg0
  z0 := Tryz.sizeOf0
  v0 := Tryz.zeroValue0
  t3 := Tryz.underlying3
  a3 := Tryz.isAgg3
  z3 := Tryz.sizeOf3
  v3 := Tryz.zeroValue3
  t4 := Tryz.underlying4
  a4 := Tryz.isAgg4
  z4 := Tryz.sizeOf4
  v4 := Tryz.zeroValue4
  t5 := Tryz.underlying5
  a5 := Tryz.isAgg5
  z5 := Tryz.sizeOf5
  v5 := Tryz.zeroValue5
  t9 := Tryz.underlying9
  a9 := Tryz.isAgg9
  z9 := Tryz.sizeOf9
  v9 := Tryz.zeroValue9
  t22 := Tryz.underlying22
  a22 := Tryz.isAgg22
  z22 := Tryz.sizeOf22
  v22 := Tryz.zeroValue22
  t25 := Tryz.underlying167
  a25 := Tryz.isAgg167
  z25 := Tryz.sizeOf167
  v25 := Tryz.zeroValue167
  t39 := Tryz.underlying177
  a39 := Tryz.isAgg177
  z39 := Tryz.sizeOf177
  v39 := Tryz.zeroValue177
  t45 := Tryz.underlying201
  a45 := Tryz.isAgg201
  z45 := Tryz.sizeOf201
  v45 := Tryz.zeroValue201
  t46 := Tryz.underlying202
  a46 := Tryz.isAgg202
  z46 := Tryz.sizeOf202
  v46 := Tryz.zeroValue202
  t50 := Tryz.underlying145
  a50 := Tryz.isAgg145
  z50 := Tryz.sizeOf145
  v50 := Tryz.zeroValue145
  t53 := Tryz.underlying117
  a53 := Tryz.isAgg117
  z53 := Tryz.sizeOf117
  v53 := Tryz.zeroValue117
  t55 := Tryz.underlying91
  a55 := Tryz.isAgg91
  z55 := Tryz.sizeOf91
  v55 := Tryz.zeroValue91
  t66 := Tryz.underlying222
  a66 := Tryz.isAgg222
  z66 := Tryz.sizeOf222
  v66 := Tryz.zeroValue222
  t70 := Tryz.underlying226
  a70 := Tryz.isAgg226
  z70 := Tryz.sizeOf226
  v70 := Tryz.zeroValue226
  t76 := Tryz.underlying234
  a76 := Tryz.isAgg234
  z76 := Tryz.sizeOf234
  v76 := Tryz.zeroValue234
  t77 := Tryz.underlying84
  a77 := Tryz.isAgg84
  z77 := Tryz.sizeOf84
  v77 := Tryz.zeroValue84 }
end Go.Proofs

namespace Go.Proofs.YtlacligofhinmaaGreat
open _root_.Go.Proofs.YtlacligofhinmaaGreat.Rows (uptoBulk uptoBulkAll uptoSmall)

theorem bulk_pos {H : Type} (d : DataW H) : 0 < uptoBulk d := by
  rcases d with l | _ | _ | _ | _ | _ | _ | _
  · cases l <;> simp [uptoBulk]
  all_goals simp [uptoBulk]
theorem bulkAll_append {H : Type} : ∀ l r : List (DataW H), uptoBulkAll (l ++ r) = uptoBulkAll l + uptoBulkAll r
  | [], r => by simp [uptoBulkAll]
  | d :: l, r => by simp only [List.cons_append, uptoBulkAll]; rw [bulkAll_append l r]; omega
theorem bulk_le_all {H : Type} {d : DataW H} {l : List (DataW H)} (h : d ∈ l) : uptoBulk d ≤ uptoBulkAll l := by
  obtain ⟨a, b, rfl⟩ := List.append_of_mem h
  rw [bulkAll_append]; simp only [uptoBulkAll]; omega
theorem length_le_bulk {H : Type} : ∀ l : List (DataW H), l.length ≤ uptoBulkAll l
  | [] => Nat.zero_le _
  | d :: l => by have := length_le_bulk l; have := bulk_pos d; simp only [uptoBulkAll, List.length_cons]; omega
theorem bulk_slice {H : Type} (es sp : List (DataW H)) : uptoBulk (.slice es sp) = uptoBulkAll es + uptoBulkAll sp + 1 := by simp [uptoBulk]
theorem bulk_bound {H : Type} {l : List (DataW H)} (h : uptoSmall H l = true) : uptoBulkAll l ≤ 1048576 := of_decide_eq_true h
end Go.Proofs.YtlacligofhinmaaGreat

namespace Go.Proofs.YtlacligofhinmaaGreat
open Go
set_option linter.unusedVariables false

section
variable {F : Fence} {n : Nat} {P : Program} {md : Region.Mode} {ops : Array Oper} {Q : Exit → Act → World → Prop}
theorem wpOpIn_mono {i : Nat} {K K' : Act → World → Prop} {a : Act} {w : World} (h : ∀ a w, K a w → K' a w) (hh : wpOpIn F n P ops Q i K a w) : wpOpIn F n P ops Q i K' a w := by
  unfold wpOpIn at hh ⊢
  split at hh
  · exact h _ _ hh
  · split at hh
    · rename_i e1; rw [if_pos e1]; exact Oper.wpIn_mono h hh
    · rename_i e1; rw [if_neg e1]; exact ⟨hh.1, h _ _ hh.2⟩
/-- A region that draws its order, in a fence with rounds or without: an invariant over what has been listed. 'left': how many are still to come, at most. -/
theorem wpAnyIn_inv (I : Array Bool → Act → World → Prop) (left : Array Bool → Nat) (hl0 : ∀ l a w, I l a w → left l = 0 → Region.ready md ops l = [])
    (hls : ∀ l a w i, I l a w → i ∈ Region.ready md ops l → left (l.setIfInBounds i true) < left l)
    (hdone : ∀ l a w, I l a w → Region.ready md ops l = [] → Q .normal a w)
    (hstep : ∀ l a w i, I l a w → i ∈ Region.ready md ops l → wpOpIn F n P ops Q i (fun a' w' => I (l.setIfInBounds i true) a' w') a w) :
    ∀ (fuel : Nat) (l : Array Bool) (a : Act) (w : World), left l ≤ fuel → I l a w → wpAnyIn F n P md ops Q fuel l a w := by
  intro fuel
  induction fuel with
  | zero => intro l a w hf hi; exact ⟨hl0 l a w hi (by omega), hdone l a w hi (hl0 l a w hi (by omega))⟩
  | succ fuel ih =>
    intro l a w hf hi
    refine ⟨fun h => hdone l a w hi h, fun i hr => ?_⟩
    have h1 := hls l a w i hi hr
    exact wpOpIn_mono (fun a' w' h => ih _ a' w' (by omega) h) (hstep l a w i hi hr)
end
end Go.Proofs.YtlacligofhinmaaGreat

namespace Go.Proofs.YtlacligofhinmaaGreat
open Go
set_option linter.unusedVariables false
set_option linter.unusedSimpArgs false

theorem getD_set (l : Array Bool) (i j : Nat) : (l.setIfInBounds i true).getD j true = (decide (i = j) || l.getD j true) := by
  by_cases e : i = j
  · subst e
    simp only [decide_true, Bool.true_or]
    rw [Array.getD_eq_getD_getElem?, Array.getElem?_setIfInBounds_self]
    split <;> rfl
  · simp only [e, decide_false, Bool.false_or]
    rw [Array.getD_eq_getD_getElem?, Array.getElem?_setIfInBounds_ne e, ← Array.getD_eq_getD_getElem?]
theorem count_zero {l : Array Bool} (h : l.toList.count false = 0) (i : Nat) : l.getD i true = true := by
  rw [Array.getD_eq_getD_getElem?]
  cases hi : l[i]? with
  | none => rfl
  | some b =>
    cases b
    · have hm : false ∈ l.toList := List.mem_of_getElem? (i := i) (by simpa using hi)
      have := List.count_pos_iff.2 hm
      omega
    · rfl
theorem count_less {l : Array Bool} {i : Nat} (h : l.getD i true = false) : (l.setIfInBounds i true).toList.count false < l.toList.count false := by
  rw [Array.getD_eq_getD_getElem?] at h
  cases hi : l[i]? with
  | none => rw [hi] at h; cases h
  | some b =>
    rw [hi] at h
    simp at h
    subst h
    have hlt := (Array.getElem?_eq_some_iff.1 hi).1
    have hm : false ∈ l.toList := List.mem_of_getElem? (i := i) (by simpa using hi)
    have hp := List.count_pos_iff.2 hm
    have e1 : l.toList[i]? = some false := by simpa using hi
    rw [Array.toList_setIfInBounds, List.count_set (by simpa using hlt)]
    have e2 : l.toList[i]'(by simpa using hlt) = false := by
      rw [List.getElem?_eq_some_iff] at e1
      exact e1.2
    rw [e2]
    have e3 : ((true : Bool) == false) = false := rfl
    have e4 : ((false : Bool) == false) = true := rfl
    rw [e3, e4]
    simp only [if_true, Bool.false_eq_true, if_false]
    omega
section
variable {F : Fence} {n : Nat} {P : Program} {md : Region.Mode} {ops : Array Oper} {Q : Exit → Act → World → Prop}
/-- a region that draws its order, by an invariant over what has been listed -/
theorem wpAnyIn_by (I : Array Bool → Act → World → Prop)
    (hdone : ∀ l a w, I l a w → Region.ready md ops l = [] → Q .normal a w)
    (hstep : ∀ l a w i, I l a w → i ∈ Region.ready md ops l → wpOpIn F n P ops Q i (fun a' w' => I (l.setIfInBounds i true) a' w') a w) :
    ∀ (fuel : Nat) (l : Array Bool) (a : Act) (w : World), l.toList.count false ≤ fuel → I l a w → wpAnyIn F n P md ops Q fuel l a w :=
  wpAnyIn_inv I (fun l => l.toList.count false) (fun l a w hi h0 => by
    cases hr : Region.ready md ops l with
    | nil => rfl
    | cons i t =>
      have hm : i ∈ Region.ready md ops l := by rw [hr]; simp
      have h1 := (mem_ready.1 hm).1
      rw [count_zero h0] at h1
      cases h1)
    (fun l a w i hi hm => count_less (mem_ready.1 hm).1) hdone hstep
end
end Go.Proofs.YtlacligofhinmaaGreat
