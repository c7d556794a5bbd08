import Derived.Test.YtjkoambfecmglaaRows
import Derived.WalkKit
import Derived.WalkSpells
import Derived.WalkLawsBesides
import Derived.BigQuiet
import Derived.Deep.QuietTactic
import Derived.Laws.AppendOwnNone
import Derived.Deep.RegionLawGrows
namespace Go.Proofs.Ytjkoambfecmglaa
open Go.RowKit
set_option linter.unusedVariables false
set_option maxRecDepth 100000

/-- a byte as a value -/
def bv (x : Nat) : Value := .int .u8 (x : Int)
/-- a slice value 'ao, length of l, cap' whose elements are the bytes l -/
structure BRow (w : World) (ao : Option Addr) (cap : Nat) (l : List Nat) : Prop where
  lt : ∀ x ∈ l, x < 256
  len : l.length ≤ 140737488351232
  nil : ao = none → l = [] ∧ cap = 0
  at_ : l ≠ [] → ∃ b off, ao = some ⟨b, off, none⟩ ∧ ∀ k (hk : k < l.length), w.cell? ⟨b, off + k, none⟩ = some (bv l[k])

theorem add_plain (b off j : Nat) : (⟨b, off, none⟩ : Addr).add j = ⟨b, off + j, none⟩ := by
  cases j with
  | zero => simp [Addr.add]
  | succ j => simp [Addr.add]
theorem BRow.later {w w' : World} {ao : Option Addr} {cap : Nat} {l : List Nat} (h : BRow w ao cap l) (hb : Below w.heap.size w w') : BRow w' ao cap l :=
  ⟨h.lt, h.len, h.nil, fun hne => by
    obtain ⟨b, off, e, hc⟩ := h.at_ hne
    exact ⟨b, off, e, fun k hk => cell_later hb (hc k hk)⟩⟩
theorem BRow.drewN {w : World} {ao : Option Addr} {cap : Nat} {l : List Nat} (h : BRow w ao cap l) (n : Nat) : BRow (w.drewN n) ao cap l :=
  ⟨h.lt, h.len, h.nil, fun hne => by
    obtain ⟨b, off, e, hc⟩ := h.at_ hne
    exact ⟨b, off, e, fun k hk => hc k hk⟩⟩
theorem BRow.own {w : World} {base : Nat} {v : Value} {l : List Nat} (h : w.ownsRow base 5 1 v l.length (l.map bv)) (hlt : ∀ x ∈ l, x < 256) (hlen : l.length ≤ 140737488351232) :
    ∃ ao cap, v = .slice ao l.length cap ∧ BRow w ao cap l := by
  rcases h.2 with ⟨hv, hn⟩ | ⟨g, cap, cur, hv, _⟩
  · have hl : l = [] := List.eq_nil_of_length_eq_zero hn
    subst hl
    exact ⟨none, 0, hv, ⟨hlt, hlen, fun _ => ⟨rfl, rfl⟩, fun h => absurd rfl h⟩⟩
  · subst hv
    refine ⟨_, _, rfl, ⟨hlt, hlen, fun h => by simp at h, fun _ => ⟨g, 0, rfl, fun k hk => ?_⟩⟩⟩
    have := h.cellAt k (by simpa using hk)
    rw [Nat.zero_add, this]; simp [hk]

theorem Try.info5 : (Try.prog.info? 5).map (fun i => (i.zero, i.size, i.bytes)) = some (some (.int .u8 0), 1, 1) := by kernel_rfl
theorem ret_bool {a b : Bool} (h : a = b) : Ending.returned (.bool a) = .returned (.bool b) := by rw [h]

theorem owns_mono {w : World} {b b' : Nat} {e : TypeId} {size : Nat} {v : Value} {n : Nat} {xs : List Value} (h : w.ownsRow b e size v n xs) (hb : b' ≤ b) : w.ownsRow b' e size v n xs := by
  refine ⟨h.1, ?_⟩
  rcases h.2 with h2 | ⟨g, cap, cur, hv, hg, r⟩
  · exact .inl h2
  · exact .inr ⟨g, cap, cur, hv, Nat.le_trans hb hg, r⟩
/-- the block of a slice is the old one or a new one -/
def Fresh (w : World) (v v' : Value) : Prop := v'.ownBlock = v.ownBlock ∨ ∃ g, v'.ownBlock = some g ∧ w.heap.size ≤ g
theorem fresh_of_owns {w w' : World} {v' : Value} {e : TypeId} {n : Nat} {xs : List Value} (h : w'.ownsRow w.heap.size e 1 v' n xs) : v'.ownBlock = none ∨ ∃ g, v'.ownBlock = some g ∧ w.heap.size ≤ g := by
  rcases h.2 with ⟨hv, _⟩ | ⟨g, cap, cur, hv, hg, _⟩
  · subst hv; exact .inl rfl
  · subst hv; exact .inr ⟨g, rfl, hg⟩

/-- append to a row of one's own (nil, with room or without), from whatever slice (nil too): the block is the old one or a new one -/
theorem wpList_append_two {P : Program} (w : World) {ops : Array Oper} {rest : List Oper} {o : Oper} {a : Act} {Q : Exit → Act → World → Prop} (hgd : o.guard = none) (s x : Operand) (t : TypeId)
    (ho : o.op = .call { callee := .builtin .append, args := #[s, x], argTypes := #[t, t] })
    (base : Nat) (e : TypeId) (i : TypeInfo) (z : Value) (bytes : Nat) (ht : P.underlying t = some (.slice e)) (hi : P.info? e = some i) (hz : i.zero = some z)
    (hsize : i.size = 1) (hby : i.bytes = bytes) (hzs : z.cells.size = 1)
    (v : Value) (n : Nat) (xs : List Value) (hs : a.eval s = v) (hown : w.ownsRow base e 1 v n xs)
    (ao : Option Addr) (m c : Nat) (news : List Value) (hx : a.eval x = .slice ao m c) (hnone : ao = none → m = 0 ∧ c = 0) (hl : news.length = m)
    (hnews : ∀ ad, ao = some ad → ∀ j u, news[j]? = some u → w.cell? (ad.add j) = some u) (h1 : ∀ u ∈ news, u.oneCell' = true)
    (h63 : n + m ≤ maxLen) (hbytes : (n + m) * bytes ≤ 140737488355328) (hbase : base ≤ w.heap.size)
    (h : ∀ v' w', w'.ownsRow base e 1 v' (n + m) (xs ++ news) → w.grownBy w' v.ownBlock → Fresh w v v' → wpList P ops Q rest (a.put o.dst v') w') : wpList P ops Q (o :: rest) a w := by
  cases ao with
  | none =>
    obtain ⟨rfl, rfl⟩ := hnone rfl
    have hnil : news = [] := List.eq_nil_of_length_eq_zero hl
    subst hnil
    refine wpList_append_own_none hgd s x t ho base e i 1 ht hi v n xs hs hown hx ?_
    exact h v w (by simpa using hown) (World.grownBy.refl w _) (.inl rfl)
  | some ad =>
    have hl' : news.length = m * 1 := by omega
    rcases hown.2 with ⟨hv, hn⟩ | ⟨g, cap, cur, hv, hg, hcur, hnc, hcm, hsz, htk⟩
    · subst hv; subst hn
      have hxs : xs = [] := List.eq_nil_of_length_eq_zero (by simpa using hown.1)
      subst hxs
      refine wpList_append_own w hgd s x t ho w.heap.size e i z 1 bytes ht hi hz hsize hby hzs (by decide) _ 0 [] hs (World.ownsRow_nil _ _ _ _) ad m c news hx hl' (hnews ad rfl) h1 h63 hbytes (Nat.le_refl _) ?_
      intro v' w' ho' hg' _
      refine h v' w' (owns_mono ho' hbase) hg' ?_
      rcases fresh_of_owns ho' with hf | hf
      · exact .inl hf
      · exact .inr hf
    · subst hv
      by_cases hroom : n + m ≤ cap
      · refine wpList_append_fits w hgd s x t ho base e i 1 ht hi hsize g n cap xs hs hown ad m c news hx hl' (hnews ad rfl) h1 hroom ?_
        intro w' ho' hg'
        exact h _ w' ho' hg' (.inl rfl)
      · refine wpList_append_grows w hgd s x t ho e i z 1 bytes ht hi hz hsize hby hzs (by decide) (some ⟨g, 0, none⟩) n cap xs hs (fun h => by simp at h) (by simpa using hown.1) ?_ ad m c news hx hl' (hnews ad rfl) h1 (by omega) h63 hbytes ?_
        · intro b hb j u hu
          cases hb
          have hj : j < n * 1 := by
            have := (List.getElem?_eq_some_iff.1 hu).1
            rw [hown.1] at this; exact this
          rw [WideShapes.add_plain, Nat.zero_add, hown.cellAt j hj]; exact hu
        · intro v' w' ho' hg'
          refine h v' w' (owns_mono ho' hbase) ?_ ?_
          · exact ⟨hg'.os, hg'.tape, hg'.output, hg'.size, fun k hk _ => hg'.block k hk (by simp)⟩
          · rcases fresh_of_owns ho' with hf | hf
            · exfalso
              rcases ho'.2 with ⟨hv', hn'⟩ | ⟨g', cap', cur', hv', _⟩
              · omega
              · subst hv'; simp [Value.ownBlock] at hf
            · exact .inr hf

theorem owns_form {w : World} {base e n : Nat} {v : Value} {xs : List Value} (h : w.ownsRow base e 1 v n xs) : ∃ ao cap, v = .slice ao n cap := by
  rcases h.2 with ⟨hv, hn⟩ | ⟨g, cap, cur, hv, _⟩
  · subst hv; subst hn; exact ⟨_, _, rfl⟩
  · exact ⟨_, _, hv⟩

set_option maxHeartbeats 400000 in
theorem same_len (ao bo : Option Addr) (cap cap' : Nat) (n m : Nat) (w : World) (hn : n ≤ 140737488351232) (hm : m ≤ 140737488351232) (h : ((n : Int) != (m : Int)) = true) :
    Calls Try.prog 13 #[.slice ao n cap, .slice bo m cap'] w fun e w' => e = .returned (.bool false) ∧ w' = w := by
  go_enter Try.func13, Try.ntmps13
  go_wp2
  go_ret
  exact ⟨rfl, rfl⟩

set_option maxHeartbeats 400000 in
theorem same_nil (ao bo : Option Addr) (cap cap' : Nat) (w : World) :
    Calls Try.prog 13 #[.slice ao 0 cap, .slice bo 0 cap'] w fun e w' => e = .returned (.bool true) ∧ w' = w := by
  go_enter Try.func13, Try.ntmps13
  go_wp2
  refine wp_loop_rounds 1 ?_
  rw [rounds_succ]
  go_wp2
  go_ret
  exact ⟨rfl, rfl⟩

theorem take_ne (l m : List Nat) (k n : Nat) (hl : l.length = n) (hm : m.length = n) (hk : k < n) (h : (l[k]?.getD 0) ≠ (m[k]?.getD 0)) : ¬ l = m := by
  rintro rfl; exact h rfl
theorem take_eq (l m : List Nat) (k n : Nat) (hl : l.length = n) (hm : m.length = n) (hk : k < n) (h : l[k]?.getD 0 = m[k]?.getD 0) (ht : l.take k = m.take k) : l.take (k + 1) = m.take (k + 1) := by
  rw [List.take_succ_eq_append_getElem (by omega), List.take_succ_eq_append_getElem (by omega), ht]
  simp [show k < l.length by omega, show k < m.length by omega] at h
  rw [h]

set_option maxHeartbeats 400000 in
theorem same_some (b off cap b' off' cap' n : Nat) (l m : List Nat) (w : World) (hn : n ≤ 140737488351232) (HL : Hid (l.length = n)) (HM : Hid (m.length = n))
    (HC : Hid (∀ k, k < n → w.cell? ⟨b, off + k, none⟩ = some (.int .u8 ((l[k]?.getD 0 : Nat) : Int)))) (HD : Hid (∀ k, k < n → w.cell? ⟨b', off' + k, none⟩ = some (.int .u8 ((m[k]?.getD 0 : Nat) : Int)))) :
    Calls Try.prog 13 #[.slice (some ⟨b, off, none⟩) n cap, .slice (some ⟨b', off', none⟩) n cap'] w fun e w' => e = .returned (.bool (decide (l = m))) ∧ ∃ q, w' = w.drewN q := by
  go_enter Try.func13, Try.ntmps13
  go_wp2
  go_loopw [5] (fun i wr => ∃ k q : Nat, k ≤ n ∧ i = .int .i64 k ∧ wr = w.drewN q ∧ l.take k = m.take k) (fun i _ => n - (intOf i).toNat)
  case atStart => exact ⟨0, 0, Nat.zero_le _, rfl, rfl, rfl⟩
  case round =>
    obtain ⟨k, q, hk, rfl, rfl, ht⟩ := hrel
    have HT : Hid (l.take k = m.take k) := ht
    clear ht
    by_cases hlt : k < n
    · have hc := HC.out k hlt
      have hd := HD.out k hlt
      by_cases hx : l[k]?.getD 0 = m[k]?.getD 0
      · have HS : Hid (l.take (k + 1) = m.take (k + 1)) := take_eq l m k n HL.out HM.out hlt hx HT.out
        rw [← hx] at hd
        clear hx
        generalize l[k]?.getD 0 = x at *
        go_wp2
        go_quiet (fail)
        go_wp2
        go_roundw
        case rel => exact ⟨k + 1, _, by omega, by go_num, rfl, HS.out⟩
        case measure => simp [intOf]; omega
      · have HS : Hid (¬ l = m) := take_ne l m k n HL.out HM.out hlt hx
        have hne : (((l[k]?.getD 0 : Nat) : Int) != ((m[k]?.getD 0 : Nat) : Int)) = true := by rw [bne_iff_ne]; omega
        clear hx
        generalize l[k]?.getD 0 = x at *
        generalize m[k]?.getD 0 = y at *
        go_wp2
        go_quiet (fail)
        go_wp2
        go_ret
        exact ⟨ret_bool (by rw [decide_eq_false HS.out]), q + nq, by rw [World.drewN_drewN]⟩
    · have HE : Hid (l = m) := by
        have := HT.out
        rwa [List.take_of_length_le (by rw [HL.out]; omega), List.take_of_length_le (by rw [HM.out]; omega)] at this
      go_wp2
      go_ret
      exact ⟨ret_bool (by rw [decide_eq_true HE.out]), _, rfl⟩

theorem same_any (ao bo : Option Addr) (cap cap' : Nat) (l m : List Nat) (w : World) (h : BRow w ao cap l) (h' : BRow w bo cap' m) :
    Calls Try.prog 13 #[.slice ao l.length cap, .slice bo m.length cap'] w fun e w' => e = .returned (.bool (decide (l = m))) ∧ ∃ q, w' = w.drewN q := by
  by_cases hlen : l.length = m.length
  · by_cases hl : l = []
    · subst hl
      have hm : m = [] := List.eq_nil_of_length_eq_zero hlen.symm
      subst hm
      exact (same_nil ao bo cap cap' w).mono fun e w' hh => ⟨hh.1, 0, hh.2⟩
    · obtain ⟨b, off, rfl, hc⟩ := h.at_ hl
      obtain ⟨b', off', rfl, hc'⟩ := h'.at_ (by rintro rfl; exact hl (List.eq_nil_of_length_eq_zero hlen))
      rw [← hlen]
      refine same_some b off cap b' off' cap' l.length l m w h.len rfl hlen.symm ?_ ?_
      · intro k hk; rw [hc k hk]; simp [bv, hk]
      · intro k hk; rw [hc' k (by omega)]; simp [bv, show k < m.length by omega]
  · refine (same_len ao bo cap cap' _ _ w h.len h'.len (by rw [bne_iff_ne]; omega)).mono fun e w' hh => ⟨?_, 0, hh.2⟩
    rw [hh.1, decide_eq_false (by rintro rfl; exact hlen rfl)]
theorem BRow.news {w : World} {ao : Option Addr} {cap : Nat} {l : List Nat} (h : BRow w ao cap l) : ∀ ad, ao = some ad → ∀ j u, (l.map bv)[j]? = some u → w.cell? (ad.add j) = some u := by
  intro ad e j u hu
  subst e
  rw [List.getElem?_map] at hu
  by_cases hj : j < l.length
  · rw [List.getElem?_eq_getElem hj] at hu
    obtain ⟨b, off, e, hc⟩ := h.at_ (by rintro rfl; simp at hj)
    cases e
    simp only [Option.map_some, Option.some.injEq] at hu
    subst hu
    rw [add_plain]; exact hc j hj
  · rw [List.getElem?_eq_none (by omega)] at hu; simp at hu
/-- but for the blocks in S the world is as it was -/
structure KeptIn (S : Nat → Prop) (w w' : World) : Prop where
  os : w'.os = w.os
  tape : w'.tape = w.tape
  output : w'.output = w.output
  size : w.heap.size ≤ w'.heap.size
  block : ∀ g, g < w.heap.size → ¬ S g → w'.heap[g]? = w.heap[g]?
theorem KeptIn.refl (S : Nat → Prop) (w : World) : KeptIn S w w := ⟨rfl, rfl, rfl, Nat.le_refl _, fun _ _ _ => rfl⟩
theorem KeptIn.trans {S T : Nat → Prop} {a b c : World} (h : KeptIn S a b) (k : KeptIn T b c) (hT : ∀ g, g < a.heap.size → ¬ S g → ¬ T g) : KeptIn S a c :=
  ⟨k.os.trans h.os, k.tape.trans h.tape, k.output.trans h.output, Nat.le_trans h.size k.size, fun g hg hS => (k.block g (Nat.lt_of_lt_of_le hg h.size) (hT g hg hS)).trans (h.block g hg hS)⟩
theorem KeptIn.mono {S T : Nat → Prop} {a b : World} (h : KeptIn S a b) (hT : ∀ g, g < a.heap.size → S g → T g) : KeptIn T a b :=
  ⟨h.os, h.tape, h.output, h.size, fun g hg hn => h.block g hg (fun hs => hn (hT g hg hs))⟩
theorem KeptIn.below {S : Nat → Prop} {a b : World} {B : Nat} (h : KeptIn S a b) (hB : B ≤ a.heap.size) (hS : ∀ g, g < B → ¬ S g) : Below B a b :=
  ⟨h.os, h.tape, h.output, h.size, fun g hg => h.block g (by omega) (hS g hg)⟩
theorem block_lt {w : World} {g : Nat} {o : Obj} (h : w.heap[g]? = some o) : g < w.heap.size := by
  rcases Nat.lt_or_ge g w.heap.size with h' | h'
  · exact h'
  · rw [Array.getElem?_eq_none h'] at h; simp at h
theorem owns_type {w : World} {base e n : Nat} {v : Value} {xs : List Value} (h : w.ownsRow base e 1 v n xs) (g : Nat) (hg : v.ownBlock = some g) : ∃ cur, w.heap[g]? = some (.cells cur e (0, 0)) := by
  rcases h.2 with ⟨hv, _⟩ | ⟨g', cap, cur, hv, hb, hh, _⟩
  · subst hv; simp [Value.ownBlock] at hg
  · subst hv; simp [Value.ownBlock] at hg; subst hg; exact ⟨cur, hh⟩
theorem owns_same {w w' : World} {base e n : Nat} {v : Value} {xs : List Value} (h : w.ownsRow base e 1 v n xs) (hs : ∀ g, v.ownBlock = some g → w'.heap[g]? = w.heap[g]?) : w'.ownsRow base e 1 v n xs := by
  refine ⟨h.1, ?_⟩
  rcases h.2 with h2 | ⟨g, cap, cur, hv, hb, hh, r⟩
  · exact .inl h2
  · subst hv; exact .inr ⟨g, cap, cur, rfl, hb, by rw [hs g rfl]; exact hh, r⟩
theorem blk_at {w : World} {p : Nat} {cs : Array Value} {t : TypeId} {fr : Nat × Nat} (h : w.heap[p]? = some (.cells cs t fr)) (j : Nat) : w.cell? ⟨p, j, none⟩ = cs[j]? := by
  unfold World.cell?; rw [h]; simp
theorem blk_free {w : World} {p : Nat} {cs : Array Value} {t : TypeId} (h : w.heap[p]? = some (.cells cs t (0, 0))) (j : Nat) : w.frozen? ⟨p, j, none⟩ = false := frozen_of_row w p j cs t h
theorem heap_new (w : World) (o : Obj) : (w.alloc o).heap[w.heap.size]? = some o := by
  show (w.heap.push o)[w.heap.size]? = _
  simp

set_option maxHeartbeats 400000 in
theorem copy_none (w : World) :
    Calls Try.prog 9 #[.slice none 0 0] w fun e w' => e = .returned (.slice none 0 0) ∧ w' = w := by
  obtain ⟨i0, hi, hz0, hz1, hz2⟩ := info_parts Try.info5
  go_enter Try.func9, Try.ntmps9
  go_wp2_with (at_builtin; refine wpList_append_own_none rfl _ _ 22 rfl w.heap.size 5 i0 1 Try.underlying22 hi _ 0 [] rfl (World.ownsRow_nil _ _ _ _) rfl ?_)
  go_ret
  exact ⟨rfl, rfl⟩

set_option maxHeartbeats 400000 in
theorem copy_some (ad : Addr) (cap : Nat) (l : List Nat) (w : World) (h : BRow w (some ad) cap l) :
    Calls Try.prog 9 #[.slice (some ad) l.length cap] w fun e w' => ∃ v, e = .returned v ∧ w'.ownsRow w.heap.size 5 1 v l.length (l.map bv) ∧ Below w.heap.size w w' := by
  obtain ⟨i0, hi, hz0, hz1, hz2⟩ := info_parts Try.info5
  have HN : Hid (∀ j u, (l.map bv)[j]? = some u → w.cell? (ad.add j) = some u) := by
    intro j u hu
    rw [List.getElem?_map] at hu
    by_cases hj : j < l.length
    · rw [List.getElem?_eq_getElem hj] at hu
      obtain ⟨b, off, e, hc⟩ := h.at_ (by rintro rfl; simp at hj)
      cases e
      simp only [Option.map_some, Option.some.injEq] at hu
      subst hu
      rw [add_plain]; exact hc j hj
    · rw [List.getElem?_eq_none (by omega)] at hu; simp at hu
  have hlen := h.len
  have H1 : Hid (∀ u ∈ l.map bv, u.oneCell' = true) := by
    intro u hu
    obtain ⟨x, _, rfl⟩ := List.mem_map.1 hu
    rfl
  clear h
  go_enter Try.func9, Try.ntmps9
  go_wp2_with (at_builtin; refine wpList_append_own _ rfl _ _ 22 rfl w.heap.size 5 i0 (.int .u8 0) 1 1 Try.underlying22 hi hz0 hz1 hz2 rfl (by decide) _ 0 [] rfl (World.ownsRow_nil _ _ _ _) ad l.length cap (l.map bv) rfl (by simp) HN.out H1.out (by unfold maxLen; omega) (by omega) (Nat.le_refl _) ?_)
  intro v' w1 hown hgrow _
  have hb : Below w.heap.size w w1 := (Below.refl _ _).grown hgrow (Nat.le_refl _) (by simp [Value.ownBlock])
  clear hgrow
  go_wp2
  go_ret
  exact ⟨_, rfl, hown, hb⟩
end Go.Proofs.Ytjkoambfecmglaa
