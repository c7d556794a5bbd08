import Derived.Test.YtpkobgnbjmefnabDoorBackM
import Derived.Test.YtpkobgnbjmefnabDoorReaderR
namespace Go.Proofs.YtpkobgnbjmefnabDoor
open Go.RowKit
set_option linter.unusedVariables false
set_option maxRecDepth 100000

theorem cells_len (x : Item) : x.cells.length = 5 := rfl
theorem flat_cells_len (ds : List Item) : (ds.flatMap Item.cells).length = ds.length * 5 := by
  induction ds with
  | nil => rfl
  | cons x ds ih => rw [List.flatMap_cons, List.length_append, ih, cells_len, List.length_cons]; omega
theorem flat_cells_get (ds : List Item) (j c : Nat) (hj : j < ds.length) (hc : c < 5) : (ds.flatMap Item.cells)[j * 5 + c]? = ds[j].cells[c]? := by
  induction ds generalizing j with
  | nil => simp at hj
  | cons x ds ih =>
    rw [List.flatMap_cons]
    cases j with
    | zero => rw [List.getElem?_append_left (by rw [cells_len]; omega)]; simp
    | succ j =>
      rw [List.getElem?_append_right (by rw [cells_len]; omega), cells_len, show (j + 1) * 5 + c - 5 = j * 5 + c by omega, ih j (by simpa using hj)]
      simp
theorem encAll_append (a b : List Item) : encAll (a ++ b) = encAll a ++ encAll b := by simp [encAll]
theorem enc_split (ds : List Item) (j : Nat) (hj : j < ds.length) : (encAll ds).drop (encAll (ds.take j)).length = ds[j].enc ++ encAll (ds.drop (j + 1)) := by
  have h1 : ds = ds.take j ++ (ds[j] :: ds.drop (j + 1)) := by rw [← List.drop_eq_getElem_cons hj, List.take_append_drop]
  have h2 : encAll ds = encAll (ds.take j) ++ (ds[j].enc ++ encAll (ds.drop (j + 1))) := by
    have := encAll_append (ds.take j) (ds[j] :: ds.drop (j + 1))
    rw [← h1] at this
    rw [this]; rfl
  rw [h2, List.drop_left]
theorem enc_next (ds : List Item) (j : Nat) (hj : j < ds.length) : (encAll (ds.take (j + 1))).length = (encAll (ds.take j)).length + ds[j].enc.length := by
  rw [List.take_succ_eq_append_getElem hj, encAll_snoc, List.length_append]
theorem enc_le (ds : List Item) (j : Nat) : (encAll (ds.take j)).length ≤ (encAll ds).length := by
  have : encAll ds = encAll (ds.take j) ++ encAll (ds.drop j) := by
    have := encAll_append (ds.take j) (ds.drop j)
    rwa [List.take_append_drop] at this
  rw [this, List.length_append]; omega
theorem ownsG_form {w : World} {base e n size : Nat} {v : Value} {xs : List Value} (h : w.ownsRow base e size v n xs) : ∃ ao cap, v = .slice ao n cap ∧ (0 < n → ∃ g, ao = some ⟨g, 0, none⟩) := by
  rcases h.2 with ⟨hv, hn⟩ | ⟨g, cap, cur, hv, _⟩
  · subst hv; subst hn; exact ⟨_, _, rfl, fun h => absurd h (by omega)⟩
  · exact ⟨_, _, hv, fun _ => ⟨g, rfl⟩⟩
theorem ROk.form {w : World} {B r : Nat} {ao : Option Addr} {cap : Nat} {l : List Nat} {a : Nat} (h : ROk w B r ao cap l a) : (ao = none ∧ cap = 0 ∧ l = []) ∨ ∃ g, ao = some ⟨g, 0, none⟩ := by
  rcases h.own.2 with ⟨hv, hn⟩ | ⟨g, c, cur, hv, _⟩
  · simp only [Value.slice.injEq] at hv
    exact .inl ⟨hv.1, hv.2.2, List.eq_nil_of_length_eq_zero hn⟩
  · simp only [Value.slice.injEq] at hv
    exact .inr ⟨g, hv.1⟩

structure RInv (w wr : World) (r : Nat) (ao : Option Addr) (cap : Nat) (l : List Nat) (pos : Nat) (u : Value) (ds : List Item) : Prop where
  rok : ROk wr w.heap.size r ao cap l pos
  don : wr.ownsRow w.heap.size 52 5 u ds.length (ds.flatMap Item.cells)
  bel : Below w.heap.size w wr
theorem RInv.alloc {w wr : World} {r : Nat} {ao : Option Addr} {cap : Nat} {l : List Nat} {pos : Nat} {u : Value} {ds : List Item} (h : RInv w wr r ao cap l pos u ds) (o : Obj) : RInv w (wr.alloc o) r ao cap l pos u ds :=
  ⟨h.rok.later (S := fun _ => False) (KeptIn.ofBelow ((Below.refl _ _).alloc (Nat.le_refl _) o)) (fun h => h) (fun _ _ h => h), h.don.alloc o, h.bel.alloc h.bel.size o⟩
theorem RInv.drewN {w wr : World} {r : Nat} {ao : Option Addr} {cap : Nat} {l : List Nat} {pos : Nat} {u : Value} {ds : List Item} (h : RInv w wr r ao cap l pos u ds) (q : Nat) : RInv w (wr.drewN q) r ao cap l pos u ds :=
  ⟨h.rok.drewN q, ownsG_same h.don (fun _ _ => rfl), ⟨h.bel.os, h.bel.tape, h.bel.output, h.bel.size, h.bel.block⟩⟩
theorem RInv.read {w wr w1 : World} {r : Nat} {ao : Option Addr} {cap : Nat} {l : List Nat} {pos pos' : Nat} {u : Value} {ds : List Item} (h : RInv w wr r ao cap l pos u ds) (hp : RPost wr w1 w.heap.size r ao cap l pos') : RInv w w1 r ao cap l pos' u ds := by
  have hb : Below w.heap.size wr w1 := hp.kept.below h.bel.size (fun g hg e => by have := h.rok.hr; omega)
  refine ⟨hp.ok, ownsG_same h.don fun g hg => ?_, h.bel.trans hb⟩
  obtain ⟨⟨cur, hc⟩, _⟩ := ownsG_type h.don g hg
  refine hp.kept.block g (block_lt hc) fun e => ?_
  have e' : g = r := e
  subst e'
  rw [h.rok.blk] at hc; simp at hc
theorem rinv_new {w wr w1 w2 : World} {p r : Nat} {v u : Value} {ao : Option Addr} {cap : Nat} {ds : List Item} (h : BInv w wr p v u ds) (h1 : Below wr.heap.size wr w1) (h2 : Below w1.heap.size w1 w2) (hr : ROk w2 w1.heap.size r ao cap (encAll ds) 0) : RInv w w2 r ao cap (encAll ds) 0 u ds := by
  have h3 : Below wr.heap.size wr w2 := h1.trans (h2.mono h1.size)
  have hle : w.heap.size ≤ w1.heap.size := Nat.le_trans h.bel.size h1.size
  refine ⟨⟨hr.blk, owns_mono hr.own hle, hr.lt, hr.len, hr.le, Nat.le_trans hle hr.hr⟩, ownsG_same h.don fun g hg => ?_, h.bel.trans (h3.mono h.bel.size)⟩
  obtain ⟨⟨cur, hc⟩, _⟩ := ownsG_type h.don g hg
  exact h3.block g (block_lt hc)
theorem RInv.cell {w wr : World} {r : Nat} {ao : Option Addr} {cap : Nat} {l : List Nat} {pos g n ucap : Nat} {ds : List Item} (h : RInv w wr r ao cap l pos (.slice (some ⟨g, 0, none⟩) n ucap) ds) (j : Nat) (hj : j < ds.length) (c : Nat) (hc : c < 5) (u : Value) (hu : ds[j].cells[c]? = some u) : wr.cell? ⟨g, j * 5 + c, none⟩ = some u := by
  obtain ⟨_, _, e, _⟩ := ownsG_form h.don
  simp only [Value.slice.injEq] at e
  obtain ⟨_, rfl, _⟩ := e
  rw [h.don.cellAt (j * 5 + c) (by omega), flat_cells_get ds j c hj hc, hu]

theorem RInv.own {w wr w' : World} {r : Nat} {ao : Option Addr} {cap : Nat} {l : List Nat} {pos : Nat} {u : Value} {ds : List Item} (h : RInv w wr r ao cap l pos u ds) (x : Item) (k : KeptIn (fun g => g = r) (wr.alloc (.cells x.cells.toArray 52)) w') (j : Nat) (u' : Value) (hu : x.cells[j]? = some u') : w'.cell? ⟨wr.heap.size, j, none⟩ = some u' := by
  have hlt := block_lt h.rok.blk
  have hk := k.block wr.heap.size (by simp) (fun e => by have e' : wr.heap.size = r := e; omega)
  rw [heap_new] at hk
  rw [blk_at hk]; simpa using hu

/-- a number is read again -/
theorem back_num {w wr : World} {r : Nat} {ao : Option Addr} {cap : Nat} {l : List Nat} {pos : Nat} {u : Value} {ds : List Item} (h : RInv w wr r ao cap l pos u ds) (x size : Nat) (tl : List Nat) (hx : x < 256 ^ size) (hl : l.drop pos = bigTo x size size ++ tl) :
    valB ((l.drop pos).take size) = x ∧ ¬ (l.length - pos < size) := by
  have h1 : (l.drop pos).length = size + tl.length := by rw [hl, List.length_append, bigTo_length]
  rw [List.length_drop] at h1
  refine ⟨?_, by omega⟩
  rw [hl, List.take_left' (bigTo_length x size size)]
  exact valB_big x size hx
theorem back_u8 {w wr : World} {r : Nat} {ao : Option Addr} {cap : Nat} {l : List Nat} {pos : Nat} {u : Value} {ds : List Item} (h : RInv w wr r ao cap l pos u ds) (x : Nat) (tl : List Nat) (hx : x < 256) (hl : l.drop pos = bigTo x 1 1 ++ tl) :
    Calls Tryd.prog 53 #[.pointer (some ⟨r, 0, none⟩)] wr fun e w' => e = .returned (.tuple #[.int .u8 (x : Int), .int .i64 0]) ∧ RInv w w' r ao cap l (pos + 1) u ds ∧ KeptIn (fun g => g = r) wr w' := by
  obtain ⟨h1, h2⟩ := back_num h x 1 tl hx hl
  refine (ru8_any _ r ao cap l pos wr h.rok).mono fun e w' hh => ?_
  rcases hh with ⟨hs, _⟩ | ⟨hs, he, hp⟩
  · exact absurd hs h2
  · rw [h1] at he; exact ⟨he, h.read hp, hp.kept⟩
theorem back_u16 {w wr : World} {r : Nat} {ao : Option Addr} {cap : Nat} {l : List Nat} {pos : Nat} {u : Value} {ds : List Item} (h : RInv w wr r ao cap l pos u ds) (x : Nat) (tl : List Nat) (hx : x < 65536) (hl : l.drop pos = bigTo x 2 2 ++ tl) :
    Calls Tryd.prog 55 #[.pointer (some ⟨r, 0, none⟩)] wr fun e w' => e = .returned (.tuple #[.int .u16 (x : Int), .int .i64 0]) ∧ RInv w w' r ao cap l (pos + 2) u ds ∧ KeptIn (fun g => g = r) wr w' := by
  obtain ⟨h1, h2⟩ := back_num h x 2 tl hx hl
  refine (ru16_any _ r ao cap l pos wr h.rok).mono fun e w' hh => ?_
  rcases hh with ⟨hs, _⟩ | ⟨hs, he, hp⟩
  · exact absurd hs h2
  · rw [h1] at he; exact ⟨he, h.read hp, hp.kept⟩
theorem back_u32 {w wr : World} {r : Nat} {ao : Option Addr} {cap : Nat} {l : List Nat} {pos : Nat} {u : Value} {ds : List Item} (h : RInv w wr r ao cap l pos u ds) (x : Nat) (tl : List Nat) (hx : x < 4294967296) (hl : l.drop pos = bigTo x 4 4 ++ tl) :
    Calls Tryd.prog 56 #[.pointer (some ⟨r, 0, none⟩)] wr fun e w' => e = .returned (.tuple #[.int .u32 (x : Int), .int .i64 0]) ∧ RInv w w' r ao cap l (pos + 4) u ds ∧ KeptIn (fun g => g = r) wr w' := by
  obtain ⟨h1, h2⟩ := back_num h x 4 tl hx hl
  refine (ru32_any _ r ao cap l pos wr h.rok).mono fun e w' hh => ?_
  rcases hh with ⟨hs, _⟩ | ⟨hs, he, hp⟩
  · exact absurd hs h2
  · rw [h1] at he; exact ⟨he, h.read hp, hp.kept⟩
theorem back_u64 {w wr : World} {r : Nat} {ao : Option Addr} {cap : Nat} {l : List Nat} {pos : Nat} {u : Value} {ds : List Item} (h : RInv w wr r ao cap l pos u ds) (x : Nat) (tl : List Nat) (hx : x < 18446744073709551616) (hl : l.drop pos = bigTo x 8 8 ++ tl) :
    Calls Tryd.prog 57 #[.pointer (some ⟨r, 0, none⟩)] wr fun e w' => e = .returned (.tuple #[.int .u64 (x : Int), .int .i64 0]) ∧ RInv w w' r ao cap l (pos + 8) u ds ∧ KeptIn (fun g => g = r) wr w' := by
  obtain ⟨h1, h2⟩ := back_num h x 8 tl hx hl
  refine (ru64_any _ r ao cap l pos wr h.rok).mono fun e w' hh => ?_
  rcases hh with ⟨hs, _⟩ | ⟨hs, he, hp⟩
  · exact absurd hs h2
  · rw [h1] at he; exact ⟨he, h.read hp, hp.kept⟩
/-- bytes are read again -/
theorem back_raw {w wr : World} {r : Nat} {ao : Option Addr} {cap : Nat} {l : List Nat} {pos : Nat} {u : Value} {ds : List Item} (h : RInv w wr r ao cap l pos u ds) (b : List Nat) (tl : List Nat) (hl : l.drop pos = b ++ tl) :
    Calls Tryd.prog 58 #[.pointer (some ⟨r, 0, none⟩), .int .i64 (b.length : Int)] wr fun e w' => ∃ ao' cap', e = .returned (.tuple #[.slice ao' b.length cap', .int .i64 0]) ∧ BRow w' ao' cap' b ∧ RInv w w' r ao cap l (pos + b.length) u ds ∧ KeptIn (fun g => g = r) wr w' := by
  have h1 : (l.drop pos).length = b.length + tl.length := by rw [hl, List.length_append]
  rw [List.length_drop] at h1
  have hlt : ∀ x ∈ b, x < 256 := fun x hx => h.rok.lt x (List.mem_of_mem_drop (i := pos) (by rw [hl]; exact List.mem_append_left _ hx))
  have hlen := h.rok.len
  have hle := h.rok.le
  rcases h.rok.form with ⟨rfl, rfl, rfl⟩ | ⟨g, rfl⟩
  · have hb : b = [] := List.eq_nil_of_length_eq_zero (by simp at h1; omega)
    subst hb
    have hp0 : pos = 0 := by simpa using hle
    subst hp0
    refine (rraw_nil _ r wr h.rok).mono fun e w' hh => ?_
    obtain ⟨ao', cap', he, ho, hp⟩ := hh
    obtain ⟨ao2, cap2, hv, hb⟩ := BRow.own (l := []) ho (by simp) (by simp)
    simp only [Value.slice.injEq] at hv
    obtain ⟨rfl, _, rfl⟩ := hv
    exact ⟨_, _, he, hb, h.read hp, hp.kept⟩
  · refine (rraw_ok _ r g cap l pos l.length b.length wr h.rok rfl (by omega)).mono fun e w' hh => ?_
    obtain ⟨ao', cap', he, ho, hp⟩ := hh
    rw [hl, List.take_left] at ho
    obtain ⟨ao2, cap2, hv, hb⟩ := BRow.own ho hlt (by omega)
    simp only [Value.slice.injEq] at hv
    obtain ⟨rfl, _, rfl⟩ := hv
    exact ⟨_, _, he, hb, h.read hp, hp.kept⟩
/-- a text is read again -/
theorem back_text {w wr : World} {r : Nat} {ao : Option Addr} {cap : Nat} {l : List Nat} {pos : Nat} {u : Value} {ds : List Item} (h : RInv w wr r ao cap l pos u ds) (hT : Tabs w) (s : ByteArray) (tl : List Nat) (hs : s.size ≤ 4096) (hp : plainB s.data.toList = true) (hl : l.drop pos = (bigTo s.size 4 4 ++ sbytes s) ++ tl) :
    Calls Tryd.prog 61 #[.pointer (some ⟨r, 0, none⟩), .int .i64 4096] wr fun e w' => e = .returned (.tuple #[.string s, .int .i64 0]) ∧ RInv w w' r ao cap l (pos + (4 + s.size)) u ds ∧ KeptIn (fun g => g = r) wr w' := by
  have h1 : (l.drop pos).length = 4 + s.size + tl.length := by rw [hl, List.length_append, List.length_append, bigTo_length, sbytes_length]
  rw [List.length_drop] at h1
  have hle := h.rok.le
  have h4 : (l.drop (pos + 4)).take s.size = sbytes s := by
    rw [← List.drop_drop, hl, List.append_assoc, List.drop_left' (bigTo_length _ _ _), List.take_left' (sbytes_length s)]
  have h5 : valB ((l.drop pos).take 4) = s.size := by
    rw [hl, List.append_assoc, List.take_left' (bigTo_length _ _ _)]
    exact valB_big _ _ (by omega)
  rcases h.rok.form with ⟨rfl, rfl, rfl⟩ | ⟨g, rfl⟩
  · simp at h1; omega
  · have hb : bstr ((l.drop (pos + 4)).take s.size) = s := by rw [h4, bstr_sbytes]
    refine (rtext_ok _ r g cap l pos l.length s.size 4096 wr h.rok (hT.later h.bel) rfl h5 (by omega) hs (by decide) (by omega) h.bel.size (by show plainB _ = true; rw [hb]; exact hp)).mono fun e w' hh => ?_
    obtain ⟨he, hp⟩ := hh
    rw [hb] at he
    exact ⟨he, h.read (by rw [← Nat.add_assoc]; exact hp), hp.kept⟩
end Go.Proofs.YtpkobgnbjmefnabDoor
