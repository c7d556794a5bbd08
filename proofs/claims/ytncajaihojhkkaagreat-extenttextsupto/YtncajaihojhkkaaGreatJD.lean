import Derived.Test.YtncajaihojhkkaaGreatJC
import Derived.Test.YtncajaihojhkkaaGreatETi
import Derived.Test.YtncajaihojhkkaaGreatXFS
import Derived.Test.YtncajaihojhkkaaGreatJA
import Derived.Test.YtncajaihojhkkaaGreatXO
import Derived.Deep.MidRow
import Derived.Deep.RegionHeld3
import Derived.Test.YtncajaihojhkkaaGreatET7z
import Derived.BigFrameIn
import Derived.BigGuardIn
import Derived.RangeFuncNested
import Derived.RangeFuncBound
import Derived.RangeFuncCalls
import Derived.RangeFuncLeaves
import Derived.Sort.QuietIn
namespace Go.Proofs.YtncajaihojhkkaaGreat.I
open Go.RowKit Go.Sort Go.Lib Go.Shelf Go.Proofs.YtncajaihojhkkaaGreat
attribute [local go_sem] Oper.semAt_some
set_option linter.unusedVariables false
set_option linter.unusedSimpArgs false
set_option maxRecDepth 100000

/-- the runs of the names -/
def nmap (nm : Nat → ByteArray) (D : List (Rn Int)) : List (Rn ByteArray) := D.map (fun r => ⟨r.lo, r.hi, nm r.v.toNat⟩)
/-- a number that names a name first -/
def CanV (nm : Nat → ByteArray) (v : Int) : Prop := ∃ j : Nat, v = (j : Int) ∧ j < 256 ∧ ∀ i, i < j → nm i ≠ nm j
theorem CanV.inj {nm : Nat → ByteArray} {v v' : Int} (h : CanV nm v) (h' : CanV nm v') (e : nm v.toNat = nm v'.toNat) : v = v' := by
  obtain ⟨j, rfl, _, h1⟩ := h
  obtain ⟨j', rfl, _, h2⟩ := h'
  simp only [Int.toNat_natCast] at e
  rcases Nat.lt_trichotomy j j' with q | q | q
  · exact absurd e (h2 j q)
  · rw [q]
  · exact absurd e.symm (h1 j' q)
theorem Can.v {nm : Nat → ByteArray} {k j : Nat} (h : Can nm k j) (hk : k < 256) : CanV nm (j : Int) := ⟨j, rfl, by have := h.1; omega, fun i hi => by rw [h.2.1]; exact h.2.2 i hi⟩
theorem tiles_pos {hi : Int} : ∀ {D : List (Rn Int)} {lo : Int}, Tiles lo hi D → ∀ r ∈ D, r.lo < r.hi
  | [], _, _, r, hr => by cases hr
  | q :: t, lo, h, r, hr => by
    rcases List.mem_cons.1 hr with rfl | hr
    · have h1 := h.1; have h2 := h.2.1; omega
    · exact tiles_pos h.2.2 r hr
theorem nmap_tiles (nm : Nat → ByteArray) {hi : Int} : ∀ {D : List (Rn Int)} {lo : Int}, Tiles lo hi D → Tiles lo hi (nmap nm D)
  | [], lo, h => h
  | r :: t, lo, h => ⟨h.1, h.2.1, nmap_tiles nm h.2.2⟩
theorem nmap_alt (nm : Nat → ByteArray) : ∀ {D : List (Rn Int)}, Alt D → (∀ r ∈ D, CanV nm r.v) → Alt (nmap nm D)
  | [], _, _ => trivial
  | [r], _, _ => trivial
  | r :: y :: t, h, hc => ⟨fun e => h.1 (CanV.inj (hc r (by simp)) (hc y (by simp)) e), nmap_alt nm (D := y :: t) h.2 (fun x hx => hc x (by simp [hx]))⟩
theorem nmap_has (nm : Nat → ByteArray) (D : List (Rn Int)) (i : Int) (u : ByteArray) : Has (nmap nm D) i u ↔ ∃ v, Has D i v ∧ nm v.toNat = u := by
  constructor
  · rintro ⟨r, hr, h1, h2, h3⟩
    obtain ⟨q, hq, rfl⟩ := List.mem_map.1 hr
    exact ⟨q.v, ⟨q, hq, h1, h2, rfl⟩, h3⟩
  · rintro ⟨v, ⟨q, hq, h1, h2, rfl⟩, h3⟩
    exact ⟨_, List.mem_map.2 ⟨q, hq, rfl⟩, h1, h2, h3⟩
theorem lastV_can {nm : Nat → ByteArray} (size : Int) : ∀ (Q : List Put) (first : Int), CanV nm first → (∀ q ∈ Q, CanV nm q.2.2) → ∀ i, CanV nm (lastV size first Q i)
  | [], first, h, _, i => h
  | q :: Q, first, h, hc, i => by
    show CanV nm (lastV size _ Q i)
    refine lastV_can size Q _ ?_ (fun r hr => hc r (by simp [hr])) i
    show CanV nm (if may size q.1 q.2.1 ∧ q.1 ≤ i ∧ i < q.2.1 then q.2.2 else first)
    split
    · exact hc q (by simp)
    · exact h
/-- the program's runs and what the document has kept -/
structure NRel (nm : Nat → ByteArray) (size first : Int) (Q : List Put) (rs : List (Rn ByteArray)) : Prop where
  tiles : Tiles 0 size rs
  alt : Alt rs
  has : ∀ i u, Has rs i u ↔ (0 ≤ i ∧ i < size ∧ nm (lastV size first Q i).toNat = u)
  first : CanV nm first
  can : ∀ q ∈ Q, CanV nm q.2.2
theorem NRel.set {nm : Nat → ByteArray} {size first : Int} {Q : List Put} {rs : List (Rn ByteArray)} (h : NRel nm size first Q rs) {k j : Nat} (hj : Can nm k j) (hk : k < 256) (lo hi : Int) (hm : may size lo hi) : NRel nm size first (Q ++ [(lo, hi, (j : Int))]) (S.setR size rs lo hi (nm k)) := by
  obtain ⟨a, b, c⟩ := S.setR_spec h.tiles h.alt lo hi (nm k)
  refine ⟨a, b, fun i u => ?_, h.first, fun q hq => ?_⟩
  · rw [c, lastV_snoc]
    have hm' : may size lo hi := hm
    by_cases hi' : lo ≤ i ∧ i < hi
    · rw [if_pos ⟨hm', hi'⟩, if_pos ⟨hm', hi'⟩]
      simp only [Int.toNat_natCast]
      rw [hj.2.1]
      exact ⟨fun e => ⟨by have := hm.1; omega, by have := hm.2.2; omega, e⟩, fun e => e.2.2⟩
    · rw [if_neg (fun e => hi' e.2), if_neg (fun e => hi' ⟨e.2.1, e.2.2⟩)]
      exact h.has i u
  · rcases List.mem_append.1 hq with hq | hq
    · exact h.can q hq
    · simp at hq; rw [hq]; exact hj.v hk
theorem NRel.new (nm : Nat → ByteArray) (size : Int) (h0 : 0 ≤ size) {k j : Nat} (hj : Can nm k j) (hk : k < 256) : NRel nm size (j : Int) [] (joined [⟨0, size, nm k⟩]) := by
  obtain ⟨a, b, c⟩ := S.joined_one size (nm k) h0
  refine ⟨a, b, fun i u => ?_, hj.v hk, fun q hq => by simp at hq⟩
  rw [c]
  show _ ↔ (0 ≤ i ∧ i < size ∧ nm ((j : Int)).toNat = u)
  simp only [Int.toNat_natCast]
  rw [hj.2.1]
theorem NRel.runs {nm : Nat → ByteArray} {size first : Int} {Q : List Put} {rs : List (Rn ByteArray)} (h : NRel nm size first Q rs) (h1 : 0 < size) : rs = nmap nm (docRuns size first Q 0 size) ∧ ∀ r ∈ docRuns size first Q 0 size, CanV nm r.v := by
  obtain ⟨a, b, c⟩ := docRuns_spec size first Q h1
  have hc : ∀ r ∈ docRuns size first Q 0 size, CanV nm r.v := fun r hr => by
    have hlt : r.lo < r.hi := tiles_pos a r hr
    have := (c r.lo r.v).1 ⟨r, hr, Int.le_refl _, hlt, rfl⟩
    rw [← this.2.2]
    exact lastV_can size Q first h.first h.can r.lo
  refine ⟨runs_unique h.tiles h.alt (nmap_tiles nm a) (nmap_alt nm b hc) (fun i u => ?_), hc⟩
  rw [h.has, nmap_has]
  constructor
  · rintro ⟨h2, h3, h4⟩
    exact ⟨_, (c i _).2 ⟨h2, h3, rfl⟩, h4⟩
  · rintro ⟨v, hv, e⟩
    obtain ⟨h2, h3, rfl⟩ := (c i v).1 hv
    exact ⟨h2, h3, e⟩
end Go.Proofs.YtncajaihojhkkaaGreat.I

namespace Go.Proofs.YtncajaihojhkkaaGreat.I
open Go.RowKit Go.Sort Go.Lib Go.Shelf Go.Proofs.YtncajaihojhkkaaGreat
attribute [local go_sem] Oper.semAt_some
set_option linter.unusedVariables false
set_option linter.unusedSimpArgs false
set_option maxRecDepth 100000

theorem und256 : Tryz.prog.underlying TNames = some (.array 256 9) := by kernel_rfl
theorem info256 : (Tryz.prog.info? TNames).map (·.size) = some 256 := by kernel_rfl
theorem range256 {W : World} {b : Nat} {A : Array Value} (hc : W.heap[b]? = some (.cells A TNames (0, 0))) : W.rangeAt b 0 A.toList := fun j v hj => by
  rw [Nat.zero_add]
  unfold World.cell?; simp only [hc]
  simpa using hj
/-- a load of all the names -/
theorem load256 {w : World} {ops : Array Oper} {rest : List Oper} {o : Oper} {a : Act} {Q : Exit → Act → World → Prop} (hgd : o.guard = none) (x : Operand) (ho : o.op = .load TNames x) (b : Nat) (hx : a.eval x = .pointer (some ⟨b, 0, none⟩)) (A : Array Value) (hs : A.size = 256) (hc : w.heap[b]? = some (.cells A TNames (0, 0)))
    (h : wpList Tryz.prog ops Q rest (a.put o.dst (.agg A)) w) : wpList Tryz.prog ops Q (o :: rest) a w :=
  wpList_load_mid hgd TNames x ho b 0 hx A.toList _ (range256 hc) und256 rfl (by rw [info256, Array.length_toList, hs]) (by simpa using h)
theorem yield256 {ops : Array Oper} {S : World → Prop} {op : Oper} {a : Act} (A : Array Value) (b : Nat) (hw : Region.wanted op (yielded ops a.tmps) = true) (y : Operand) (ho : op.op = .load TNames y) (hx : a.eval y = .pointer (some ⟨b, 0, none⟩)) (hs : A.size = 256) (hS : ∀ w, S w → w.heap[b]? = some (.cells A TNames (0, 0))) : YieldsIf Tryz.prog ops S op (.agg A) a := by
  have h := yieldsIf_load_mid (P := Tryz.prog) (ops := ops) (S := S) hw TNames y ho b 0 hx A.toList _ (fun w hw => range256 (hS w hw)) und256 rfl (by rw [info256, Array.length_toList, hs])
  simpa using h
theorem keptM_other {W W' : World} {B bm : Nat} {vm vm' : Value} {size : Int} {rs : List (Rn ByteArray)} (hm : S.MO W B bm vm size rs) (hk : S.KeptM W W' bm vm vm') {k : Nat} {cs : Array Value} {T : TypeId} {fr : Nat × Nat} (hb : W.heap[k]? = some (.cells cs T fr)) (h1 : T ≠ S.TMap) (h2 : T ≠ S.TRun) : W'.heap[k]? = some (.cells cs T fr) := by
  refine (hk.block k (Array.getElem?_eq_some_iff.1 hb).1 (fun e => ?_) (fun e => ?_)).trans hb
  · subst e; rw [hm.blk] at hb; simp at hb; exact h1 hb.2.1.symm
  · obtain ⟨_, _, cs', h3⟩ := row_lt hm.row k e
    rw [h3] at hb; simp at hb; exact h2 hb.2.1.symm
theorem kx_other {W W' : World} {B bd : Nat} {sv : Value} {size first : Int} {Q : List Put} (hd : DM W B bd sv size first Q) (hk : KX (fun k => k = bd ∨ sv.ownBlock = some k) W W') {k : Nat} {cs : Array Value} {T : TypeId} {fr : Nat × Nat} (hb : W.heap[k]? = some (.cells cs T fr)) (h1 : T ≠ TDM) (h2 : T ≠ TEnt) : W'.heap[k]? = some (.cells cs T fr) := by
  refine (hk.block k (Array.getElem?_eq_some_iff.1 hb).1 (fun e => ?_)).trans hb
  rcases e with e | e
  · subst e; rw [hd.blk] at hb; simp at hb; exact h1 hb.2.1.symm
  · obtain ⟨_, _, cs', h3⟩ := row_lt hd.row k e
    rw [h3] at hb; simp at hb; exact h2 hb.2.1.symm
/-- what stands while the script goes on -/
structure TI (w W : World) (H : Nat) (A : Array Value) (nm : Nat → ByteArray) (bm bd : Nat) (size first : Int) (Q : List Put) (rs : List (Rn ByteArray)) : Prop where
  nb : W.heap[H]? = some (.cells A TNames (0, 0))
  rb : Boxed W (H + 1) 4 (.bool false)
  m : ∃ vm, S.MO W (H + 2) bm vm size rs
  d : ∃ sv, DM W (H + 2) bd sv size first Q
  rel : NRel nm size first Q rs
  bel : Below w.heap.size w W
  hH : w.heap.size = H
theorem TI.later {w W W' : World} {H : Nat} {A : Array Value} {nm : Nat → ByteArray} {bm bd : Nat} {size first : Int} {Q : List Put} {rs : List (Rn ByteArray)} (h : TI w W H A nm bm bd size first Q rs) (hb : Below W.heap.size W W') : TI w W' H A nm bm bd size first Q rs := by
  obtain ⟨vm, hm⟩ := h.m
  obtain ⟨sv, hd⟩ := h.d
  exact ⟨(hb.block _ (Array.getElem?_eq_some_iff.1 h.nb).1).trans h.nb, (hb.block _ h.rb.lt).trans h.rb, ⟨vm, hm.later hb⟩, ⟨sv, hd.later hb⟩, h.rel, h.bel.trans (hb.mono h.bel.size), h.hH⟩
/-- the program's Set -/
theorem TI.pset {w W : World} {H : Nat} {A : Array Value} {nm : Nat → ByteArray} {bm bd : Nat} {size first : Int} {Q : List Put} {rs : List (Rn ByteArray)} (h : TI w W H A nm bm bd size first Q rs) (lo hi : Int) (x : ByteArray) :
    Calls Tryz.prog 10 #[.pointer (some ⟨bm, 0, none⟩), .int .i64 lo, .int .i64 hi, .string x] W fun e W' => e = .returned (.int .i64 (S.setE size lo hi)) ∧ (W'.heap[H]? = some (.cells A TNames (0, 0)) ∧ Boxed W' (H + 1) 4 (.bool false) ∧ (∃ vm, S.MO W' (H + 2) bm vm size (S.setR size rs lo hi x)) ∧ (∃ sv, DM W' (H + 2) bd sv size first Q) ∧ Below w.heap.size w W') := by
  obtain ⟨vm, hm⟩ := h.m
  obtain ⟨sv, hd⟩ := h.d
  refine (S.set_any hm lo hi x).mono ?_
  rintro e W' ⟨rfl, vm', hm', hk⟩
  refine ⟨rfl, keptM_other hm hk h.nb (by decide) (by decide), keptM_other hm hk h.rb (by decide) (by decide), ⟨vm', hm'⟩, ⟨sv, ⟨keptM_other hm hk hd.blk (by decide) (by decide), owns_same hd.row (fun g e => ?_), hd.base, hd.may⟩⟩, ?_⟩
  · obtain ⟨_, _, cs, h1⟩ := row_lt hd.row g e
    rw [keptM_other hm hk h1 (by decide) (by decide), h1]
  · refine ⟨hk.os.trans h.bel.os, hk.tape.trans h.bel.tape, hk.output.trans h.bel.output, Nat.le_trans h.bel.size hk.size, fun k hlt => (hk.block k (Nat.lt_of_lt_of_le hlt h.bel.size) (fun e => ?_) (fun e => ?_)).trans (h.bel.block k hlt)⟩
    · have h1 := hm.base; have h2 := h.hH; omega
    · have h1 := (row_lt hm.row k e).2.1; have h2 := h.hH; omega
/-- the document's Set behind it -/
theorem dset_after {w W : World} {H : Nat} {A : Array Value} {nm : Nat → ByteArray} {bm bd : Nat} {size first : Int} {Q : List Put} {rs rs' : List (Rn ByteArray)} (h : TI w W H A nm bm bd size first Q rs) {W1 : World} (h1 : W1.heap[H]? = some (.cells A TNames (0, 0)) ∧ Boxed W1 (H + 1) 4 (.bool false) ∧ (∃ vm, S.MO W1 (H + 2) bm vm size rs') ∧ (∃ sv, DM W1 (H + 2) bd sv size first Q) ∧ Below w.heap.size w W1) (lo hi : Int) (v : Int) (hm : may size lo hi) (hl : Q.length ≤ 1099511627776) (hr : NRel nm size first (Q ++ [(lo, hi, v)]) rs') :
    Calls Tryz.prog 11 #[.pointer (some ⟨bd, 0, none⟩), .int .i64 lo, .int .i64 hi, .int .i64 v] W1 fun e W' => e = .returned (.int .i64 0) ∧ TI w W' H A nm bm bd size first (Q ++ [(lo, hi, v)]) rs' := by
  obtain ⟨a1, a2, ⟨vm, hmo⟩, ⟨sv, hd⟩, hb⟩ := h1
  refine (dSet_yes hd lo hi v hm hl).mono ?_
  rintro e W' ⟨rfl, sv', hd', hk, hf⟩
  refine ⟨rfl, kx_other hd hk a1 (by decide) (by decide), kx_other hd hk a2 (by decide) (by decide), ⟨vm, ?_⟩, ⟨sv', hd'⟩, hr, KX.below hb hk hb.size (fun k e => ?_), h.hH⟩
  · refine ⟨kx_other hd hk hmo.blk (by decide) (by decide), owns_same hmo.row (fun g e => ?_), hmo.base, hmo.tiles, hmo.alt, hmo.le⟩
    obtain ⟨_, _, cs, h3⟩ := row_lt hmo.row g e
    rw [kx_other hd hk h3 (by decide) (by decide), h3]
  · have h2 := h.hH
    rcases e with e | e
    · have := hd.base; omega
    · have := (row_lt hd.row k e).2.1; omega
end Go.Proofs.YtncajaihojhkkaaGreat.I

namespace Go.Proofs.YtncajaihojhkkaaGreat.I
open Go.RowKit Go.Sort Go.Lib Go.Shelf Go.Proofs.YtncajaihojhkkaaGreat
attribute [local go_sem] Oper.semAt_some
set_option linter.unusedVariables false
set_option linter.unusedSimpArgs false
set_option maxRecDepth 100000

theorem dRuns_zero {w : World} {bd : Nat} (c0 : w.cell? ⟨bd, 0, none⟩ = some (.bool true)) (c1 : w.cell? ⟨bd, 1, none⟩ = some (.int .i64 0)) :
    Calls Tryz.prog 12 #[.pointer (some ⟨bd, 0, none⟩), .int .i64 0, .int .i64 0] w fun e w' => e = .returned (.slice none 0 0) ∧ w' = w := by
  go_enter Tryz.func12, Tryz.ntmps12
  go_wp2
  go_ret
  exact ⟨rfl, rfl⟩
/-- what is wanted: the document's runs, whose names are the program's -/
theorem want_any {nm : Nat → ByteArray} {w : World} {B bd : Nat} {sv : Value} {size first : Int} {Q : List Put} {rs : List (Rn ByteArray)} (h : DM w B bd sv size first Q) (hR : NRel nm size first Q rs) (hl : Q.length ≤ 1048576) :
    Calls Tryz.prog 12 #[.pointer (some ⟨bd, 0, none⟩), .int .i64 0, .int .i64 size] w fun e w' => ∃ v D, e = .returned v ∧ w'.ownsRow w.heap.size TEnt 3 v D.length (rcells E D) ∧ Below w.heap.size w w' ∧ rs = nmap nm D ∧ ∀ r ∈ D, CanV nm r.v := by
  have h0 := hR.tiles.le
  by_cases h1 : 0 < size
  · obtain ⟨e1, e2⟩ := hR.runs h1
    refine (dRuns_a h 0 size (by omega) (by omega) (Int.le_refl _) h1 (Int.le_refl _) hl).mono ?_
    rintro e w' ⟨v, rfl, ho, hb⟩
    exact ⟨v, _, rfl, ho, hb, e1, e2⟩
  · obtain rfl : size = 0 := by omega
    refine (dRuns_zero (h.c 0) (h.c 1)).mono ?_
    rintro e w' ⟨rfl, rfl⟩
    exact ⟨_, [], rfl, World.ownsRow_nil _ _ _ _, Below.refl _ _, hR.tiles.empty, fun r hr => by cases hr⟩
end Go.Proofs.YtncajaihojhkkaaGreat.I

namespace Go.Proofs.YtncajaihojhkkaaGreat.I
open Go.RowKit Go.Sort Go.Lib Go.Shelf Go.Proofs.YtncajaihojhkkaaGreat
attribute [local go_sem] Oper.semAt_some
set_option linter.unusedVariables false
set_option linter.unusedSimpArgs false
set_option maxRecDepth 100000

theorem boxed_later {W W' : World} {k t : Nat} {v : Value} (h : Boxed W k t v) (hb : Below W.heap.size W W') : Boxed W' k t v := (hb.block k h.lt).trans h
theorem cells_ownI (Bx : Nat) (cs : Array Value) (t : TypeId) (B : Nat) : OwnFrom B (fun (_ : Unit) (W : World) => W.heap[Bx]? = some (.cells cs t (0, 0))) := fun s X Y row hs hg hrow => by
  refine (hg.block Bx (Array.getElem?_eq_some_iff.1 hs).1 (fun e => ?_)).trans hs
  obtain ⟨_, o, ho, hc⟩ := hrow Bx e.symm
  rw [hs] at ho; cases ho; simp [Obj.isCells] at hc
theorem res_bool {tmps : Array Value} {w : World} {g : Nat} {b : Bool} (hp : tmps.getD 8 undef = .pointer (some ⟨g, 0, none⟩)) (hb : Boxed w g 4 (.bool b)) : (results Tryz.f3 tmps).run Tryz.prog w = .ok (.bool b) w := by
  have h : Tryz.f3.results = #[.cell 8 4] := rfl
  have hp' : tmps[8]?.getD undef = .pointer (some ⟨g, 0, none⟩) := by simpa using hp
  have hc := hb.cell
  have ha := Tryz.isAgg4
  simp [results, h, hp', asAddr]
  go_simp
/-- the law's two first blocks -/
theorem boxes2 {A : Array Value} {nm : Nat → ByteArray} (hA : Nms A nm) (w : World) {H : Nat} (hH : w.heap.size = H) : let W := (w.alloc (.cells A TNames)).alloc (.cells #[.bool false] 4)
    W.heap[H]? = some (.cells A TNames (0, 0)) ∧ Boxed W (H + 1) 4 (.bool false) ∧ Below w.heap.size w W ∧ W.heap.size = H + 2 := by
  intro W
  have a1 := Boxed.new (w.alloc (.cells A TNames)) 4 (.bool false)
  rw [World.size_alloc, hH] at a1
  exact ⟨(Below.heap_alloc _ _ _ (by simp; omega)).trans (by rw [← hH]; exact heap_alloc_new w _), a1, ((Below.refl _ w).alloc (Nat.le_refl _) _).alloc (by simp) _, by simp [W, hH]⟩
set_option maxHeartbeats 4000000 in
theorem lawTexts_bad {A : Array Value} {nm : Nat → ByteArray} (hA : Nms A nm) (size : Int) (fi : Nat) (hf : fi < 256) (ao : Option Addr) (n cap : Nat) (w : World) (h : size < 0 ∨ 1099511627776 < size) :
    Calls Tryz.prog 3 #[.int .i64 size, .int .u8 (fi : Int), .slice ao n cap, .agg A] w fun e w' => e = .returned (.bool true) ∧ Below w.heap.size w w' := by
  refine (callsIn_wide (n := 4)).1 ?_
  have f0 : Fence.wide.fn 3 := trivial
  have f1 : Fence.wide.fn 4 := trivial
  have f2 : Fence.wide.fn 6 := trivial
  have f3 : Fence.wide.fn 5 := trivial
  have f11 : Fence.wide.fn 7 := trivial
  have HS : Hid (∀ W, Calls Tryz.prog 6 #[.int .i64 size] W fun e w' => e = .returned (.bool false) ∧ w' = W) := fun W => sized_no size W h
  have HL : Hid (∀ v W, Calls Tryz.prog 4 #[.int .i64 size, v] W fun e w' => e = .returned (.tuple #[.pointer none, .int .i64 20]) ∧ w' = W) := fun v W => S.new_bad size v W h
  obtain ⟨b0, b1, b2, b3⟩ := boxes2 hA w rfl
  have c0 := hA.cell b0 fi hf
  have HX : Hid (∀ W, Below ((w.alloc (.cells A TNames)).alloc (.cells #[.bool false] 4)).heap.size ((w.alloc (.cells A TNames)).alloc (.cells #[.bool false] 4)) W → Boxed W (w.heap.size + 1) 4 (.bool false) ∧ Below w.heap.size w W) := fun W hW => ⟨boxed_later b1 hW, b2.trans (hW.mono b2.size)⟩
  have hf0 : (0 : Int) ≤ (fi : Int) := by omega
  have hf1 : (fi : Int) < 256 := by omega
  have hsz := hA.size
  clear h b0 b1 b2 b3 hA
  refine callsIn_of_wp_marks Tryz.func3 rfl f0 ?_ rfl
  simp only [Tryz.ntmps3, List.size_toArray, List.length_cons, List.length_nil, Nat.reduceAdd, Nat.reduceSub, Array.replicate_succ, Array.replicate_zero, List.push_toArray, List.append_toArray, List.nil_append, List.cons_append]
  gi_big_wp2_with (first | (gi_at_call 4; refine (callsIn_wide.2 (HL.out _ _)).mono ?_; rintro e w9 ⟨rfl, hw9⟩; rw [hw9]; clear hw9) | (gi_at_call 5; refine (callsIn_wide.2 (num_any _ _)).mono ?_; rintro e w9 ⟨rfl, hw9⟩; rw [hw9]; clear hw9) | (gi_at_call 6; refine (callsIn_wide.2 (HS.out _)).mono ?_; rintro e w9 ⟨rfl, hw9⟩; rw [hw9]; clear hw9) | (gi_at_call 7; refine (callsIn_wide.2 (alive_any _)).mono ?_; rintro e w9 ⟨rfl, hb⟩; have hx := HX.out _ hb; have hxc := hx.1.cell; have hxf := hx.1.frozen; clear hb))
  exact ⟨_, res_bool rfl (hx.1.set _), rfl, hx.2.grown (grownBy_setCell' _ _ _) (by have := hx.2.size; omega) (fun k e => by cases e; omega)⟩
end Go.Proofs.YtncajaihojhkkaaGreat.I

namespace Go.Proofs.YtncajaihojhkkaaGreat
variable {F : Fence} {n : Nat} {P : Program} {C : World → Prop} {ops : Array Oper}
/-- no operation defers -/
def NoDefer (ops : Array Oper) : Bool := ops.all fun o => match o.op with | .defer _ => false | _ => true
theorem noDefer_at {ops : Array Oper} (h : NoDefer ops = true) {i : Nat} {o : Oper} (ho : ops[i]? = some o) : ∀ c, o.op ≠ .defer c := by
  intro c hc
  unfold NoDefer at h
  rw [Array.all_eq_true] at h
  obtain ⟨hi, rfl⟩ := Array.getElem?_eq_some_iff.1 ho
  have := h i hi
  rw [hc] at this
  cases this
theorem semAt_any (ro : Option Nat) (ρ : Operand → Value) (o : Oper) (h : ∀ c, o.op ≠ .defer c) : Oper.semAt ro ρ o = execOp ρ o := by
  cases ro with
  | none => exact Oper.semAt_none _ _
  | some l => exact Oper.semAt_some l ρ o h
theorem oper_quiet {o : Oper} {a : Act} {K : Act → Prop} {K' : Act → World → Prop} {Q' : Exit → Act → World → Prop} {w : World} (hnd : ∀ c, o.op ≠ .defer c) (hw : C w) (h : ∀ a w', C w' → K a → K' a w')
    (ha : o.askedIn F P a C) (hh : o.quietIn F n P a C K) : o.wpIn F n P a w K' Q' := by
  obtain ⟨v, h1, h2⟩ := hh
  have h3 := h1 w hw
  unfold Oper.quietAtIn at h3
  unfold Oper.wpIn
  refine ⟨ha w hw, ?_⟩
  rw [semAt_any F.round a.eval o hnd]
  generalize (execOp a.eval o).run P w = r at *
  cases r with
  | ok x w' =>
    cases x <;> simp only [Oper.quietUponIn] at h3 <;> simp only [Oper.uponIn]
    case value u =>
      obtain ⟨e1, e2⟩ := h3
      rw [e1, e2]
      exact h _ _ hw h2
    case skip =>
      obtain ⟨e1, e2⟩ := h3
      rw [e1, ← e2]
      exact h _ _ hw h2
    case enter f args =>
      obtain ⟨e1, hd, hc⟩ := h3
      rw [e1]
      exact ⟨hd, hc.mono fun e w'' ⟨he, hw''⟩ => by subst he; exact h _ _ hw'' h2⟩
  | halt x w' => simp only [Oper.quietUponIn] at h3
theorem op_quiet (hnd : NoDefer ops = true) {i : Nat} {a : Act} {K : Act → Prop} {K' : Act → World → Prop} {Q' : Exit → Act → World → Prop} {w : World} (hC : C w) (h : ∀ a w', C w' → K a → K' a w')
    (hh : qOpIn F n P ops C i K a) : wpOpIn F n P ops Q' i K' a w := by
  unfold qOpIn at hh
  unfold wpOpIn
  split
  · rename_i ho; simp only [ho] at hh; exact h _ _ hC hh
  · rename_i o ho
    simp only [ho] at hh
    obtain ⟨ha, hh⟩ := hh
    split
    · rename_i hw; simp only [hw, if_true] at hh; exact oper_quiet (noDefer_at hnd ho) hC h ha hh
    · rename_i hw; simp only [hw] at hh; exact ⟨ha w hC, h _ _ hC hh⟩
theorem any_quiet {md : Region.Mode} (hnd : NoDefer ops = true) {Q : Act → Prop} {Q' : Exit → Act → World → Prop} (hQ : ∀ a w, C w → Q a → Q' .normal a w) : ∀ (fuel : Nat) (listed : Array Bool) (a : Act) (w : World), C w →
    wpAnyQIn F n P md ops C Q fuel listed a → wpAnyIn F n P md ops Q' fuel listed a w
  | 0, _, _, _, hw, h => ⟨h.1, hQ _ _ hw h.2⟩
  | fuel + 1, _, _, _, hw, h => ⟨fun h0 => hQ _ _ hw (h.1 h0), fun i hi => op_quiet hnd hw (fun a' w' hw' => any_quiet hnd hQ fuel _ a' w' hw') (h.2 i hi)⟩
/-- a quiet region, in a round too -/
theorem region_quiet {id : Nat} {Q : Exit → Act → World → Prop} {a : Act} {w : World} {l : List Oper} (hnd : NoDefer l.toArray = true) (hm : P.follows .mixedOrders = true) (hB : Region.lexB .any l.toArray = true)
    (h : wpQuietIn F n P l.toArray (fun w' => ∃ n, w' = w.drewN n) (fun a' => ∀ w', (∃ n, w' = w.drewN n) → Q .normal a' w') l a) : (Code.region id l.toArray true).wpIn F n P Q a w := by
  simp only [Region.lexB, Bool.and_eq_true] at hB
  refine wpIn_region_any hm (any_quiet (C := fun w' => ∃ n, w' = w.drewN n) (Q := fun a' => ∀ w', (∃ n, w' = w.drewN n) → Q .normal a' w') hnd (fun _ w' hw' h => h w' hw') _ _ _ _ ⟨1, rfl⟩ ?_)
  have := wpAnyQIn_lex (F := F) (n := n) (C := fun w' => ∃ n, w' = w.drewN n) (md := .any) hB.1 l 0 (Array.replicate l.length false) a (by simp) (by simpa using hB.2) h
  simpa using this
end Go.Proofs.YtncajaihojhkkaaGreat
