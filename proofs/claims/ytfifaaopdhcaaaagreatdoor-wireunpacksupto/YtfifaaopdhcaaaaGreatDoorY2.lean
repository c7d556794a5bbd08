import Derived.Test.YtfifaaopdhcaaaaGreatDoorY1
import Derived.Lib.AppendStr
namespace Go.Proofs.YtfifaaopdhcaaaaGreatDoor
open Go.RowKit
set_option linter.unusedVariables false
set_option maxRecDepth 100000

/-- but for the blocks in S the world is as it was -/
structure KeptIn (S : Nat → Prop) (w w' : World) : Prop where
  os : w'.os = w.os
  tape : w'.tape = w.tape
  output : w'.output = w.output
  size : w.heap.size ≤ w'.heap.size
  block : ∀ g, g < w.heap.size → ¬ S g → w'.heap[g]? = w.heap[g]?
theorem KeptIn.refl (S : Nat → Prop) (w : World) : KeptIn S w w := ⟨rfl, rfl, rfl, Nat.le_refl _, fun _ _ _ => rfl⟩
theorem KeptIn.trans {S T : Nat → Prop} {a b c : World} (h : KeptIn S a b) (k : KeptIn T b c) (hT : ∀ g, g < a.heap.size → ¬ S g → ¬ T g) : KeptIn S a c :=
  ⟨k.os.trans h.os, k.tape.trans h.tape, k.output.trans h.output, Nat.le_trans h.size k.size, fun g hg hS => (k.block g (Nat.lt_of_lt_of_le hg h.size) (hT g hg hS)).trans (h.block g hg hS)⟩
theorem KeptIn.mono {S T : Nat → Prop} {a b : World} (h : KeptIn S a b) (hT : ∀ g, g < a.heap.size → S g → T g) : KeptIn T a b :=
  ⟨h.os, h.tape, h.output, h.size, fun g hg hn => h.block g hg (fun hs => hn (hT g hg hs))⟩
theorem KeptIn.below {S : Nat → Prop} {a b : World} {B : Nat} (h : KeptIn S a b) (hB : B ≤ a.heap.size) (hS : ∀ g, g < B → ¬ S g) : Below B a b :=
  ⟨h.os, h.tape, h.output, h.size, fun g hg => h.block g (by omega) (hS g hg)⟩
theorem Below.keptIn {B : Nat} {a b : World} (h : Below B a b) : KeptIn (fun g => B ≤ g) a b :=
  ⟨h.os, h.tape, h.output, h.size, fun g hg hS => h.block g (by omega)⟩
theorem KeptIn.ofBelow {S : Nat → Prop} {a b : World} (h : Below a.heap.size a b) : KeptIn S a b := ⟨h.os, h.tape, h.output, h.size, fun g hg _ => h.block g hg⟩

/-- the blocks of a writer -/
def wset (p : Nat) (v : Value) (g : Nat) : Prop := g = p ∨ v.ownBlock = some g
/-- a writer at block p that has the bytes l -/
structure WOk (w : World) (B p : Nat) (v : Value) (l : List Nat) : Prop where
  blk : w.heap[p]? = some (.cells #[.bool true, v] 176 (0, 0))
  own : w.ownsRow B 5 1 v l.length (l.map bv)
  lt : ∀ x ∈ l, x < 256
  hp : B ≤ p
theorem block_lt {w : World} {g : Nat} {o : Obj} (h : w.heap[g]? = some o) : g < w.heap.size := by
  rcases Nat.lt_or_ge g w.heap.size with h' | h'
  · exact h'
  · rw [Array.getElem?_eq_none h'] at h; simp at h
theorem owns_lt {w : World} {base e n : Nat} {v : Value} {xs : List Value} (h : w.ownsRow base e 1 v n xs) (g : Nat) (hg : v.ownBlock = some g) : g < w.heap.size ∧ base ≤ g := by
  rcases h.2 with ⟨hv, _⟩ | ⟨g', cap, cur, hv, hb, hh, _⟩
  · subst hv; simp [Value.ownBlock] at hg
  · subst hv; simp [Value.ownBlock] at hg; subst hg; exact ⟨block_lt hh, hb⟩
theorem owns_type {w : World} {base e n : Nat} {v : Value} {xs : List Value} (h : w.ownsRow base e 1 v n xs) (g : Nat) (hg : v.ownBlock = some g) : ∃ cur, w.heap[g]? = some (.cells cur e (0, 0)) := by
  rcases h.2 with ⟨hv, _⟩ | ⟨g', cap, cur, hv, hb, hh, _⟩
  · subst hv; simp [Value.ownBlock] at hg
  · subst hv; simp [Value.ownBlock] at hg; subst hg; exact ⟨cur, hh⟩
theorem owns_same {w w' : World} {base e n : Nat} {v : Value} {xs : List Value} (h : w.ownsRow base e 1 v n xs) (hs : ∀ g, v.ownBlock = some g → w'.heap[g]? = w.heap[g]?) : w'.ownsRow base e 1 v n xs := by
  refine ⟨h.1, ?_⟩
  rcases h.2 with h2 | ⟨g, cap, cur, hv, hb, hh, r⟩
  · exact .inl h2
  · subst hv; exact .inr ⟨g, cap, cur, rfl, hb, by rw [hs g rfl]; exact hh, r⟩
theorem blk_at {w : World} {p : Nat} {cs : Array Value} {t : TypeId} {fr : Nat × Nat} (h : w.heap[p]? = some (.cells cs t fr)) (j : Nat) : w.cell? ⟨p, j, none⟩ = cs[j]? := by
  unfold World.cell?; rw [h]; simp
theorem WOk.c0 {w : World} {B p : Nat} {v : Value} {l : List Nat} (h : WOk w B p v l) : w.cell? ⟨p, 0, none⟩ = some (.bool true) := by rw [blk_at h.blk]; rfl
theorem WOk.c1 {w : World} {B p : Nat} {v : Value} {l : List Nat} (h : WOk w B p v l) : w.cell? ⟨p, 1, none⟩ = some v := by rw [blk_at h.blk]; rfl
theorem blk_free {w : World} {p : Nat} {cs : Array Value} {t : TypeId} (h : w.heap[p]? = some (.cells cs t (0, 0))) (j : Nat) : w.frozen? ⟨p, j, none⟩ = false := frozen_of_row w p j cs t h
theorem WOk.apart {w : World} {B p : Nat} {v : Value} {l : List Nat} (h : WOk w B p v l) : v.ownBlock ≠ some p := by
  intro e
  obtain ⟨cur, hc⟩ := owns_type h.own p e
  rw [h.blk] at hc; simp at hc
theorem WOk.later {w w' : World} {B p : Nat} {v : Value} {l : List Nat} (h : WOk w B p v l) {S : Nat → Prop} (k : KeptIn S w w') (hp : ¬ S p) (hv : ∀ g, v.ownBlock = some g → ¬ S g) : WOk w' B p v l :=
  ⟨by rw [k.block p (block_lt h.blk) hp]; exact h.blk, owns_same h.own fun g hg => k.block g (owns_lt h.own g hg).1 (hv g hg), h.lt, h.hp⟩
/-- what a call on a writer comes to -/
structure WPost (w w' : World) (B p : Nat) (v v' : Value) (l' : List Nat) : Prop where
  ok : WOk w' B p v' l'
  kept : KeptIn (wset p v) w w'
  fresh : Fresh w v v'
theorem WPost.trans {w w1 w2 : World} {B p : Nat} {v v1 v2 : Value} {l1 l2 : List Nat} (h : WPost w w1 B p v v1 l1) (k : WPost w1 w2 B p v1 v2 l2) : WPost w w2 B p v v2 l2 := by
  refine ⟨k.ok, h.kept.trans k.kept ?_, ?_⟩
  · intro g hg hS hT
    rcases hT with hT | hT
    · exact hS (.inl hT)
    · rcases h.fresh with hf | ⟨g', hf, hge⟩
      · exact hS (.inr (hf ▸ hT))
      · rw [hf] at hT; cases hT; omega
  · rcases k.fresh with hf | ⟨g', hf, hge⟩
    · rcases h.fresh with hf' | ⟨g', hf', hge'⟩
      · exact .inl (hf.trans hf')
      · exact .inr ⟨g', hf.trans hf', hge'⟩
    · exact .inr ⟨g', hf, Nat.le_trans h.kept.size hge⟩
theorem WPost.refl {w : World} {B p : Nat} {v : Value} {l : List Nat} (h : WOk w B p v l) : WPost w w B p v v l := ⟨h, KeptIn.refl _ _, .inl rfl⟩
/-- behind an append and the store of the slice -/
theorem WOk.grow {w w1 : World} {B p : Nat} {v v' : Value} {l m : List Nat} (h : WOk w B p v l) (hm : ∀ x ∈ m, x < 256)
    (ho : w1.ownsRow B 5 1 v' (l.length + m.length) (l.map bv ++ m.map bv)) (hg : w.grownBy w1 v.ownBlock) (hf : Fresh w v v') :
    WPost w (w1.setCell ⟨p, 1, none⟩ v') B p v v' (l ++ m) := by
  have hb1 : w1.heap[p]? = some (.cells #[.bool true, v] 176 (0, 0)) := by rw [hg.block p (block_lt h.blk) (fun e => h.apart e.symm)]; exact h.blk
  have hpv : v'.ownBlock ≠ some p := by
    intro e
    rcases hf with hf | ⟨g, hf, hge⟩
    · exact h.apart (hf ▸ e)
    · rw [hf] at e; cases e; have := block_lt h.blk; omega
  refine ⟨⟨?_, ?_, ?_, h.hp⟩, ⟨?_, ?_, ?_, ?_, ?_⟩, hf⟩
  · have := heap_setCell_same w1 p 1 #[.bool true, v] 176 v' hb1
    simpa using this
  · have h1 : w1.ownsRow B 5 1 v' (l ++ m).length ((l ++ m).map bv) := by simpa using ho
    exact owns_same h1 fun g hg' => Below.heap_setCell _ _ _ _ (fun e => hpv (by rw [hg', e]))
  · intro x hx
    rcases List.mem_append.1 hx with h' | h'
    · exact h.lt x h'
    · exact hm x h'
  · exact hg.os
  · exact hg.tape
  · exact hg.output
  · simpa [World.setCell] using hg.size
  · intro g hlt hn
    rw [Below.heap_setCell _ _ _ _ (fun e => hn (.inl e))]
    exact hg.block g hlt (fun e => hn (.inr e.symm))

theorem WOk.grow1 {w W0 w1 : World} {B p : Nat} {v v' : Value} {l m : List Nat} (h : WOk w B p v l) (hb : Below w.heap.size w W0) (hm : ∀ x ∈ m, x < 256)
    (ho : w1.ownsRow B 5 1 v' (l.length + m.length) (l.map bv ++ m.map bv)) (hg : W0.grownBy w1 v.ownBlock) (hf : Fresh W0 v v') :
    (w1.cell? ⟨p, 1, none⟩ = some v ∧ w1.frozen? ⟨p, 1, none⟩ = false) ∧ WPost w (w1.setCell ⟨p, 1, none⟩ v') B p v v' (l ++ m) := by
  have hk : KeptIn (fun _ => False) w W0 := KeptIn.ofBelow hb
  have h0 : WOk W0 B p v l := h.later hk (fun h => h) (fun _ _ h => h)
  have hb1 : w1.heap[p]? = some (.cells #[.bool true, v] 176 (0, 0)) := by rw [hg.block p (block_lt h0.blk) (fun e => h0.apart e.symm)]; exact h0.blk
  have hp := h0.grow hm ho hg hf
  refine ⟨⟨by rw [blk_at hb1]; rfl, blk_free hb1 1⟩, hp.ok, (KeptIn.ofBelow hb).trans hp.kept (fun g _ h => h), ?_⟩
  rcases hf with hf | ⟨g, hf, hge⟩
  · exact .inl hf
  · exact .inr ⟨g, hf, Nat.le_trans hb.size hge⟩

set_option maxHeartbeats 400000 in
theorem usable_true (p : Nat) (w : World) (h0 : w.cell? ⟨p, 0, none⟩ = some (.bool true)) :
    Calls Tryz.prog 97 #[.pointer (some ⟨p, 0, none⟩)] w fun e w' => e = .returned (.bool true) ∧ w' = w := by
  go_enter Tryz.func97, Tryz.ntmps97
  go_wp2
  go_ret
  exact ⟨rfl, rfl⟩

def bigTo (v size k : Nat) : List Nat := (List.range k).map fun j => v / 2 ^ (8 * (size - 1 - j)) % 256
theorem bigTo_succ (v size k : Nat) : bigTo v size (k + 1) = bigTo v size k ++ [v / 2 ^ (8 * (size - 1 - k)) % 256] := by simp [bigTo, List.range_succ]
theorem bigTo_lt (v size k : Nat) : ∀ x ∈ bigTo v size k, x < 256 := by
  intro x hx
  obtain ⟨j, _, rfl⟩ := List.mem_map.1 hx
  exact Nat.mod_lt _ (by decide)
theorem bigTo_length (v size k : Nat) : (bigTo v size k).length = k := by simp [bigTo]

theorem byte_val (x d : Nat) : Value.int .u8 (IntKind.u8.wrap ((x : Int) / 2 ^ (8 * (d : Int)).toNat)) = bv (x / 2 ^ (8 * d) % 256) := by
  rw [show (8 * (d : Int)).toNat = 8 * d by omega, IntKind.wrap_u8]
  unfold bv
  congr 1

set_option maxRecDepth 100000 in
set_option maxHeartbeats 1000000 in
theorem number_any (B p x size : Nat) (v : Value) (l : List Nat) (w : World) (h : WOk w B p v l) (hx : x < 18446744073709551616) (hs : size ≤ 8) (hl : l.length + size ≤ 140737488351232) (hB : B ≤ w.heap.size) :
    Calls Tryz.prog 96 #[.pointer (some ⟨p, 0, none⟩), .int .u64 (x : Int), .int .i64 (size : Int)] w fun e w' => e = .returned (.tuple #[]) ∧ ∃ v', WPost w w' B p v v' (l ++ bigTo x size size) := by
  obtain ⟨i0, hi, hz0, hz1, hz2⟩ := info_parts Tryz.info5
  have HU : Hid (Calls Tryz.prog 97 #[.pointer (some ⟨p, 0, none⟩)] w fun e w' => e = .returned (.bool true) ∧ w' = w) := usable_true p w h.c0
  have HW : Hid (WOk w B p v l) := h
  clear h
  go_enter Tryz.func96, Tryz.ntmps96
  go_wp2_with fail
  refine HU.out.mono ?_
  rintro e w1 ⟨rfl, hw⟩
  rw [hw]; clear hw
  go_wp2
  go_loopw [6] (fun i wr => ∃ k : Nat, ∃ v', k ≤ size ∧ i = .int .i64 ((size : Int) - 1 - k) ∧ WPost w wr B p v v' (l ++ bigTo x size k)) (fun i _ => ((intOf i) + 1).toNat)
  case atStart => exact ⟨0, v, Nat.zero_le _, by simp, by simpa [bigTo] using WPost.refl HW.out⟩
  case round =>
    obtain ⟨k, v1, hk, rfl, hp⟩ := hrel
    by_cases hlt : k < size
    · obtain ⟨ao, cp, hv⟩ := owns_form hp.ok.own
      subst hv
      have c1 := hp.ok.c1
      have f1 := blk_free hp.ok.blk 1
      have HPo : Hid (WPost w wr B p v (.slice ao (l ++ bigTo x size k).length cp) (l ++ bigTo x size k)) := hp
      clear hp
      have hlen : (l ++ bigTo x size k).length = l.length + k := by simp [bigTo_length]
      rw [hlen] at c1 HPo
      obtain ⟨d, hd0⟩ : ∃ d, size = k + 1 + d := ⟨size - 1 - k, by omega⟩
      have hd : ((size : Int) - 1 - (k : Int)) = (d : Int) := by omega
      simp only [hd]
      clear hd hlen
      have HD : Hid (size = k + 1 + d) := hd0
      have hd7 : d ≤ 7 := by omega
      clear hd0
      have hwr : IntKind.i64.wrap (8 * (d : Int)) = 8 * (d : Int) := by rw [IntKind.wrap_i64]; omega
      have HV : Hid (Value.int .u8 (IntKind.u8.wrap ((x : Int) / 2 ^ (8 * (d : Int)).toNat)) = bv (x / 2 ^ (8 * d) % 256)) := byte_val x d
      have HY : Hid (x / 2 ^ (8 * d) % 256 < 256) := Nat.mod_lt _ (by decide)
      have HE : Hid (bigTo x size (k + 1) = bigTo x size k ++ [x / 2 ^ (8 * d) % 256]) := by
        show bigTo x size (k + 1) = _
        rw [bigTo_succ, show size - 1 - k = d by have := HD.out; omega]
      generalize x / 2 ^ (8 * d) % 256 = y at *
      have HO : Hid (∀ o, (wr.alloc o).drew.ownsRow B 5 1 (.slice ao (l.length + k) cp) (l.length + k) ((l ++ bigTo x size k).map bv)) := fun o => by
        have := HPo.out.ok.own.alloc o
        simp only [List.length_append, bigTo_length] at this
        exact this
      have HG : Hid (∀ o v' w', w'.ownsRow B 5 1 v' (l.length + k + 1) ((l ++ bigTo x size k).map bv ++ [Value.int .u8 (IntKind.u8.wrap ((x : Int) / 2 ^ (8 * (d : Int)).toNat))]) → (wr.alloc o).drew.grownBy w' (Value.slice ao (l.length + k) cp).ownBlock → Fresh (wr.alloc o).drew (.slice ao (l.length + k) cp) v' →
          (w'.cell? ⟨p, 1, none⟩ = some (.slice ao (l.length + k) cp) ∧ w'.frozen? ⟨p, 1, none⟩ = false) ∧ WPost wr (w'.setCell ⟨p, 1, none⟩ v') B p (.slice ao (l.length + k) cp) v' (l ++ bigTo x size (k + 1))) := fun o v' w' h1 h2 h3 => by
        rw [HV.out] at h1
        have := HPo.out.ok.grow1 (W0 := (wr.alloc o).drew) (m := [y]) ((Below.refl _ _).alloc (Nat.le_refl _) o).drew (by simpa using HY.out) (by simpa [bigTo_length, Nat.add_assoc] using h1) h2 h3
        rw [List.append_assoc, ← HE.out] at this
        exact this
      have HZ : Hid (B ≤ wr.heap.size) := Nat.le_trans hB HPo.out.kept.size
      have c1a : ∀ o, (wr.alloc o).cell? ⟨p, 1, none⟩ = some (.slice ao (l.length + k) cp) := fun o => cell_later ((Below.refl _ _).alloc (Nat.le_refl _) o) c1
      go_wp2
      go_region_law (refine step_append_two rfl (.tmp 20) (.tmp 26) 22 rfl B 5 i0 (.int .u8 0) 1 Tryz.underlying22 hi hz0 hz1 hz2 rfl (.slice ao (l.length + k) cp) (l.length + k) ((l ++ bigTo x size k).map bv) (by simp [Act.eval]) (HO.out _) ⟨wr.heap.size, 0, none⟩ 1 1 [Value.int .u8 (IntKind.u8.wrap ((x : Int) / 2 ^ (8 * (d : Int)).toNat))] (by simp [Act.eval]) rfl (news_one wr _ _ _ rfl) (by simp [Value.oneCell']) (by unfold maxLen; omega) (by omega) (by have := HZ.out; simp; omega) ?_; intro ao2 cp2 w2 ho2 hg2 hf2; have HR := HG.out _ _ _ ho2 hg2 hf2; obtain ⟨⟨c2, f2⟩, hp2⟩ := HR; have HP2 : Hid _ := hp2; clear hp2 ho2 hg2 hf2)
      all_goals
        go_wp2
        go_roundw
        case rel => exact ⟨k + 1, _, by omega, by have hD := HD.out; congr 1; omega, HPo.out.trans HP2.out⟩
        case measure => simp [intOf]
    · have ek : k = size := by omega
      subst ek
      have HPo : Hid (WPost w wr B p v v1 (l ++ bigTo x k k)) := hp
      clear hp
      go_wp2
      go_end0
      exact ⟨rfl, _, HPo.out⟩

/-- the bytes of a string -/
def sbytes (s : ByteArray) : List Nat := s.data.toList.map UInt8.toNat
theorem sbytes_length (s : ByteArray) : (sbytes s).length = s.size := by simp [sbytes]
theorem sbytes_lt (s : ByteArray) : ∀ x ∈ sbytes s, x < 256 := by
  intro x hx
  obtain ⟨b, _, rfl⟩ := List.mem_map.1 hx
  exact UInt8.toNat_lt b
theorem strCells_bv (s : ByteArray) : Lib.strCells s = (sbytes s).map bv := by
  unfold Lib.strCells sbytes bv
  rw [List.map_map]; rfl

theorem run_append_two_string {P : Program} (w : World) (base : Nat) (t u ty e : TypeId) (i : TypeInfo) (ht : P.underlying t = some (.slice e)) (hu : P.underlying u = some .string) (hi : P.info? e = some i) (hz : i.zero = some (.int .u8 0))
    (hsize : i.size = 1) (hby : i.bytes = 1) (v : Value) (n : Nat) (xs : List Value) (hown : w.ownsRow base e 1 v n xs) (s : ByteArray)
    (hbytes : n + s.size ≤ 140737488355328) (hbase : base ≤ w.heap.size) :
    ∃ v' w', (Builtin.append_ #[t, u] ty #[v, .string s]).run P w = .ok v' w' ∧ w'.ownsRow base e 1 v' (n + s.size) (xs ++ Lib.strCells s) ∧ w.grownBy w' v.ownBlock ∧ Fresh w v v' := by
  have h63 : n + s.size ≤ maxLen := by unfold maxLen; omega
  rcases hown.2 with ⟨hv, hn⟩ | ⟨g, cap, cur, hv, hg, hcur, hnc, hcm, hsz, htk⟩
  · subst hv; subst hn
    have hxs : xs = [] := List.eq_nil_of_length_eq_zero (by simpa using hown.1)
    subst hxs
    obtain ⟨v', w', hrun, r1, r2, _⟩ := Lib.run_append_own_string (P := P) w w.heap.size t u ty e i ht hu hi hz hsize hby (.slice none 0 0) 0 [] (World.ownsRow_nil w _ e 1) s h63 hbytes (Nat.le_refl _)
    refine ⟨v', w', hrun, owns_mono r1 hbase, r2, ?_⟩
    rcases fresh_of_owns r1 with hf | hf
    · exact .inl hf
    · exact .inr hf
  · subst hv
    obtain ⟨v', w', hrun, r1, r2, _⟩ := Lib.run_append_own_string (P := P) w base t u ty e i ht hu hi hz hsize hby _ n xs hown s h63 hbytes hbase
    refine ⟨v', w', hrun, r1, r2, ?_⟩
    by_cases hroom : n + s.size ≤ cap
    · have hr := Lib.run_append_room_string (P := P) w t u ty e i ht hu hi hsize g n cap cur hcur s hroom (by omega)
      rw [hrun] at hr
      simp only [Result.ok.injEq] at hr
      rw [hr.1]; exact .inl rfl
    · have holds : ∀ j u, xs[j]? = some u → w.cell? ((⟨g, 0, none⟩ : Addr).add j) = some u := hown.cells (g := g) rfl
      have hxl : xs.length = n := by simpa using hown.1
      have hr := Lib.run_append_grow_string (P := P) w t u ty e i (.int .u8 0) ht hu hi hz ⟨g, 0, none⟩ n cap xs (by rw [hsize]; simpa using hxl) holds s (by omega) (by omega) (by rw [hby]; exact growslice_fits (by omega) (by omega))
      rw [hrun] at hr
      simp only [Result.ok.injEq] at hr
      rw [hr.1]; exact .inr ⟨w.heap.size, rfl, Nat.le_refl _⟩
theorem wpList_append_two_string {P : Program} (w : World) {ops : Array Oper} {rest : List Oper} {o : Oper} {a : Act} {Q : Exit → Act → World → Prop} (hgd : o.guard = none) (sl x : Operand) (t u : TypeId)
    (ho : o.op = .call { callee := .builtin .append, args := #[sl, x], argTypes := #[t, u] })
    (base : Nat) (e : TypeId) (i : TypeInfo) (ht : P.underlying t = some (.slice e)) (hu : P.underlying u = some .string) (hi : P.info? e = some i) (hz : i.zero = some (.int .u8 0))
    (hsize : i.size = 1) (hby : i.bytes = 1)
    (v : Value) (n : Nat) (xs : List Value) (hs : a.eval sl = v) (hown : w.ownsRow base e 1 v n xs) (s : ByteArray) (hx : a.eval x = .string s)
    (hbytes : n + s.size ≤ 140737488355328) (hbase : base ≤ w.heap.size)
    (h : ∀ ao cap w', w'.ownsRow base e 1 (.slice ao (n + s.size) cap) (n + s.size) (xs ++ Lib.strCells s) → w.grownBy w' v.ownBlock → Fresh w v (.slice ao (n + s.size) cap) → wpList P ops Q rest (a.put o.dst (.slice ao (n + s.size) cap)) w') : wpList P ops Q (o :: rest) a w := by
  refine wpList_plain hgd fun K hK => ?_
  obtain ⟨v', w', hr, h2, h3, h4⟩ := run_append_two_string (P := P) w base t u o.type e i ht hu hi hz hsize hby v n xs hown s hbytes hbase
  obtain ⟨ao, cap, rfl⟩ := owns_form h2
  unfold Oper.wp execOp
  simp only [ho, resolve, invoke, builtin, Sem.run_bind, Sem.run_pure, Result.andThen_ok, List.map_toArray, List.map_cons, List.map_nil, hs, hx, hr]
  exact hK _ _ (h ao cap w' h2 h3 h4)

set_option maxHeartbeats 400000 in
theorem newWriter_any (w : World) :
    Calls Tryz.prog 77 #[] w fun e w' => e = .returned (.pointer (some ⟨w.heap.size, 0, none⟩)) ∧ w' = w.alloc (.cells #[.bool true, .slice none 0 0] 176) := by
  go_enter Tryz.func77, Tryz.ntmps77
  go_wp2
  go_ret
  exact ⟨rfl, rfl⟩
theorem heap_new (w : World) (o : Obj) : (w.alloc o).heap[w.heap.size]? = some o := by
  show (w.heap.push o)[w.heap.size]? = _
  simp
theorem wok_new (w : World) : WOk (w.alloc (.cells #[.bool true, .slice none 0 0] 176)) w.heap.size w.heap.size (.slice none 0 0) [] :=
  ⟨heap_new w _, World.ownsRow_nil _ _ _ _, by simp, Nat.le_refl _⟩

set_option maxHeartbeats 400000 in
theorem wu16_any (B p x : Nat) (v : Value) (l : List Nat) (w : World) (h : WOk w B p v l) (hx : x < 65536) (hl : l.length + 8 ≤ 140737488351232) (hB : B ≤ w.heap.size) :
    Calls Tryz.prog 88 #[.pointer (some ⟨p, 0, none⟩), .int .u16 (x : Int)] w fun e w' => e = .returned (.tuple #[]) ∧ ∃ v', WPost w w' B p v v' (l ++ bigTo x 2 2) := by
  have HN : Hid (Calls Tryz.prog 96 #[.pointer (some ⟨p, 0, none⟩), .int .u64 (x : Int), .int .i64 2] w fun e w' => e = .returned (.tuple #[]) ∧ ∃ v', WPost w w' B p v v' (l ++ bigTo x 2 2)) := number_any B p x 2 v l w h (by omega) (by decide) (by omega) hB
  clear h
  go_enter Tryz.func88, Tryz.ntmps88
  go_wp2_with fail
  refine HN.out.mono ?_
  rintro e w1 ⟨rfl, v', hp⟩
  go_wp2
  go_end0
  exact ⟨rfl, v', hp⟩
set_option maxHeartbeats 400000 in
theorem wu32_any (B p x : Nat) (v : Value) (l : List Nat) (w : World) (h : WOk w B p v l) (hx : x < 4294967296) (hl : l.length + 8 ≤ 140737488351232) (hB : B ≤ w.heap.size) :
    Calls Tryz.prog 79 #[.pointer (some ⟨p, 0, none⟩), .int .u32 (x : Int)] w fun e w' => e = .returned (.tuple #[]) ∧ ∃ v', WPost w w' B p v v' (l ++ bigTo x 4 4) := by
  have HN : Hid (Calls Tryz.prog 96 #[.pointer (some ⟨p, 0, none⟩), .int .u64 (x : Int), .int .i64 4] w fun e w' => e = .returned (.tuple #[]) ∧ ∃ v', WPost w w' B p v v' (l ++ bigTo x 4 4)) := number_any B p x 4 v l w h (by omega) (by decide) (by omega) hB
  clear h
  go_enter Tryz.func79, Tryz.ntmps79
  go_wp2_with fail
  refine HN.out.mono ?_
  rintro e w1 ⟨rfl, v', hp⟩
  go_wp2
  go_end0
  exact ⟨rfl, v', hp⟩
set_option maxHeartbeats 400000 in
theorem wu64_any (B p x : Nat) (v : Value) (l : List Nat) (w : World) (h : WOk w B p v l) (hx : x < 18446744073709551616) (hl : l.length + 8 ≤ 140737488351232) (hB : B ≤ w.heap.size) :
    Calls Tryz.prog 78 #[.pointer (some ⟨p, 0, none⟩), .int .u64 (x : Int)] w fun e w' => e = .returned (.tuple #[]) ∧ ∃ v', WPost w w' B p v v' (l ++ bigTo x 8 8) := by
  have HN : Hid (Calls Tryz.prog 96 #[.pointer (some ⟨p, 0, none⟩), .int .u64 (x : Int), .int .i64 8] w fun e w' => e = .returned (.tuple #[]) ∧ ∃ v', WPost w w' B p v v' (l ++ bigTo x 8 8)) := number_any B p x 8 v l w h hx (by decide) (by omega) hB
  clear h
  go_enter Tryz.func78, Tryz.ntmps78
  go_wp2_with fail
  refine HN.out.mono ?_
  rintro e w1 ⟨rfl, v', hp⟩
  go_wp2
  go_end0
  exact ⟨rfl, v', hp⟩

set_option maxHeartbeats 1000000 in
theorem wraw_any (B p : Nat) (v : Value) (l m : List Nat) (ao : Option Addr) (cap n : Nat) (w : World) (h : WOk w B p v l) (hm : BRow w ao cap m) (HN : Hid (m.length = n)) (hl : l.length + n ≤ 140737488351232) (hB : B ≤ w.heap.size) :
    Calls Tryz.prog 80 #[.pointer (some ⟨p, 0, none⟩), .slice ao n cap] w fun e w' => e = .returned (.tuple #[]) ∧ ∃ v', WPost w w' B p v v' (l ++ m) := by
  obtain ⟨i0, hi, hz0, hz1, hz2⟩ := info_parts Tryz.info5
  have HU : Hid (Calls Tryz.prog 97 #[.pointer (some ⟨p, 0, none⟩)] w fun e w' => e = .returned (.bool true) ∧ w' = w) := usable_true p w h.c0
  have c1 := h.c1
  have HW : Hid (WOk w B p v l) := h
  have HM : Hid (BRow w ao cap m) := hm
  clear h hm
  go_enter Tryz.func80, Tryz.ntmps80
  go_wp2_with fail
  refine HU.out.mono ?_
  rintro e w1 ⟨rfl, hw⟩
  rw [hw]; clear hw
  go_wp2_with (at_builtin; refine wpList_append_two _ rfl (.tmp 10) (.tmp 11) 22 rfl B 5 i0 (.int .u8 0) 1 Tryz.underlying22 hi hz0 hz1 hz2 rfl v l.length (l.map bv) rfl HW.out.own ao n cap (m.map bv) rfl (by have := HM.out.nil'; rwa [HN.out] at this) (by rw [List.length_map]; exact HN.out) HM.out.news (bv_one m) (by unfold maxLen; omega) (by omega) hB ?_)
  intro v' w1 ho hg hf
  have HR := HW.out.grow1 (m := m) (Below.refl _ _) HM.out.lt (by rw [HN.out]; exact ho) hg hf
  obtain ⟨⟨c2, f2⟩, hp⟩ := HR
  obtain ⟨ao2, cp2, hv2⟩ := owns_form ho
  have HP : Hid (WPost w (w1.setCell ⟨p, 1, none⟩ v') B p v v' (l ++ m)) := hp
  clear hp ho hg hf
  subst hv2
  go_wp2
  go_end0
  exact ⟨rfl, _, HP.out⟩

theorem WPost.ofBelow {w w' : World} {B p : Nat} {v : Value} {l : List Nat} (h : WOk w B p v l) (hb : Below w.heap.size w w') : WPost w w' B p v v l :=
  ⟨h.later (S := fun _ => False) (KeptIn.ofBelow hb) (fun h => h) (fun _ _ h => h), KeptIn.ofBelow hb, .inl rfl⟩

set_option maxHeartbeats 400000 in
theorem clone_nil (w : World) : Calls Tryz.prog 90 #[.slice none 0 0] w fun e w' => e = .returned (.slice none 0 0) ∧ w' = w := by
  have he : ∀ w : World, (binOp .eql 22 (.slice none 0 0) (.slice none 0 0)).run Tryz.prog w = .ok (.bool true) w := fun w => run_eql_nil_slice w 22 5 none 0 0 0 0 Tryz.underlying22
  go_enter Tryz.func90, Tryz.ntmps90
  go_wp2
  go_ret
  exact ⟨rfl, rfl⟩
theorem BRow.below {w w' : World} {ao : Option Addr} {cap : Nat} {l : List Nat} (h : BRow w ao cap l) (hb : Below w.heap.size w w') : BRow w' ao cap l := h.later hb
set_option maxHeartbeats 1000000 in
theorem clone_some (ad : Addr) (cap n : Nat) (l : List Nat) (w : World) (h : BRow w (some ad) cap l) (HN : Hid (l.length = n)) (hn : n ≤ 140737488351232) :
    Calls Tryz.prog 90 #[.slice (some ad) n cap] w fun e w' => ∃ v, e = .returned v ∧ w'.ownsRow w.heap.size 5 1 v n (l.map bv) ∧ Below w.heap.size w w' := by
  obtain ⟨i0, hi, hz0, hz1, hz2⟩ := info_parts Tryz.info5
  have he : ∀ w : World, (binOp .eql 22 (.slice (some ad) n cap) (.slice none 0 0)).run Tryz.prog w = .ok (.bool false) w := fun w => Lib.run_eql_slice_nil w 22 5 (some ad) n cap 0 0 Tryz.underlying22
  have HB : Hid (∀ o, BRow (w.alloc o) (some ad) cap l) := fun o => h.later ((Below.refl _ _).alloc (Nat.le_refl _) o)
  have HO : Hid ((w.alloc (.cells #[] 5)).ownsRow w.heap.size 5 1 (.slice (some ⟨w.heap.size, 0, none⟩) 0 0) 0 []) :=
    World.ownsRow_lit w #[] 0 (Nat.le_refl _) (Nat.zero_le _) rfl
  clear h
  go_enter Tryz.func90, Tryz.ntmps90
  go_wp2_with (at_builtin; refine wpList_append_two _ rfl (.tmp 5) (.tmp 6) 22 rfl w.heap.size 5 i0 (.int .u8 0) 1 Tryz.underlying22 hi hz0 hz1 hz2 rfl _ 0 [] rfl HO.out (some ad) n cap (l.map bv) rfl (by simp) (by rw [List.length_map]; exact HN.out) (HB.out _).news (bv_one l) (by unfold maxLen; omega) (by omega) (by simp) ?_)
  intro v' w1 ho hg hf
  have hb : Below w.heap.size w w1 := ((Below.refl _ _).alloc (Nat.le_refl _) _).grown hg (by simp) (by intro k hk; simp [Value.ownBlock] at hk; omega)
  clear hg hf
  go_wp2
  go_ret
  exact ⟨_, rfl, ho, hb⟩
theorem clone_any (ao : Option Addr) (cap : Nat) (l : List Nat) (w : World) (h : BRow w ao cap l) :
    Calls Tryz.prog 90 #[.slice ao l.length cap] w fun e w' => ∃ ao' cap', e = .returned (.slice ao' l.length cap') ∧ w'.ownsRow w.heap.size 5 1 (.slice ao' l.length cap') l.length (l.map bv) ∧ Below w.heap.size w w' := by
  cases ao with
  | none =>
    obtain ⟨rfl, rfl⟩ := h.nil rfl
    exact (clone_nil w).mono fun e w' hh => ⟨none, 0, hh.1, World.ownsRow_nil _ _ _ _, by rw [hh.2]; exact Below.refl _ _⟩
  | some ad =>
    refine (clone_some ad cap l.length l w h rfl h.len).mono fun e w' ⟨v, he, ho, hb⟩ => ?_
    obtain ⟨ao', cap', rfl⟩ := owns_form ho
    exact ⟨ao', cap', he, ho, hb⟩

set_option maxHeartbeats 400000 in
theorem wout_any (B p : Nat) (v : Value) (l : List Nat) (w : World) (h : WOk w B p v l) (hl : l.length ≤ 140737488351232) :
    Calls Tryz.prog 81 #[.pointer (some ⟨p, 0, none⟩)] w fun e w' => ∃ ao' cap', e = .returned (.slice ao' l.length cap') ∧ w'.ownsRow w.heap.size 5 1 (.slice ao' l.length cap') l.length (l.map bv) ∧ Below w.heap.size w w' := by
  have HU : Hid (Calls Tryz.prog 97 #[.pointer (some ⟨p, 0, none⟩)] w fun e w' => e = .returned (.bool true) ∧ w' = w) := usable_true p w h.c0
  have c1 := h.c1
  obtain ⟨ao, cap, hv, hb⟩ := BRow.own h.own h.lt hl
  subst hv
  have HC : Hid (Calls Tryz.prog 90 #[.slice ao l.length cap] w fun e w' => ∃ ao' cap', e = .returned (.slice ao' l.length cap') ∧ w'.ownsRow w.heap.size 5 1 (.slice ao' l.length cap') l.length (l.map bv) ∧ Below w.heap.size w w') := clone_any ao cap l w hb
  clear h hb
  go_enter Tryz.func81, Tryz.ntmps81
  go_wp2_with fail
  refine HU.out.mono ?_
  rintro e w1 ⟨rfl, hw⟩
  rw [hw]; clear hw
  go_wp2_with fail
  refine HC.out.mono ?_
  rintro e w1 ⟨ao', cap', rfl, ho, hb⟩
  go_wp2
  go_ret
  exact ⟨_, _, rfl, ho, hb⟩
end Go.Proofs.YtfifaaopdhcaaaaGreatDoor
