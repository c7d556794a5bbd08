import Derived.Test.YtpkobgnbjmefnabDoorQuoteM
import Derived.Test.YtpkobgnbjmefnabDoorShelfQ
import Derived.Test.YtpkobgnbjmefnabDoorHexW
import Derived.Test.YtpkobgnbjmefnabDoorPlainW
import Derived.Lib.OthersKept
namespace Go.Proofs.YtpkobgnbjmefnabDoor
open Go.RowKit
set_option linter.unusedVariables false
set_option maxRecDepth 100000

theorem rune_bytes (r : Int) : Lib.runeCells r = Lib.byteCells (Lib.encodeRune r) := by
  unfold Lib.runeCells Lib.byteCells Lib.encodeRune
  rw [List.map_map]
  apply List.map_congr_left
  intro x hx
  have h := Lib.encodeRuneZ_byte r x hx
  show Value.int .u8 x = Value.int .u8 ((x.toNat.toUInt8).toNat : Int)
  have : (x.toNat.toUInt8).toNat = x.toNat := by
    show (UInt8.ofNat x.toNat).toNat = _
    rw [UInt8.toNat_ofNat']; omega
  rw [this]
  congr 1; omega
theorem bytes_app (l m : List UInt8) : Lib.byteCells (l ++ m) = Lib.byteCells l ++ Lib.byteCells m := by unfold Lib.byteCells; simp
theorem bytes_len (l : List UInt8) : (Lib.byteCells l).length = l.length := by unfold Lib.byteCells; simp
/-- a builder at block b, an iterator (or whatever else) at block k -/
structure QS (w wr : World) (b k : Nat) (o : Obj) (acc : List UInt8) : Prop where
  bld : Lib.IsBuilderF 75 5 w.heap.size b (Lib.byteCells acc) wr
  it : wr.heap[k]? = some o
  bel : Below w.heap.size w wr
  noc : ∀ c t fz, o ≠ .cells c t fz
  kb : k ≠ b
theorem QS.below {w wr w' : World} {b k : Nat} {o : Obj} {acc : List UInt8} (h : QS w wr b k o acc) (hb : Below wr.heap.size wr w') : QS w w' b k o acc := by
  refine ⟨?_, by rw [hb.block k (block_lt h.it)]; exact h.it, h.bel.trans (hb.mono h.bel.size), h.noc, h.kb⟩
  have go : ∀ p, Lib.BuilderAtF 75 5 w.heap.size b p (Lib.byteCells acc) wr → Lib.BuilderAtF 75 5 w.heap.size b p (Lib.byteCells acc) w' := by
    rintro p ⟨hB, v, hbk, hown, hne⟩
    refine ⟨hB, v, by rw [hb.block b (block_lt hbk)]; exact hbk, ⟨hown.1, ?_⟩, hne⟩
    rcases hown.2 with hn | ⟨g, cap, cur, fz, hv, hbg, hg, rest⟩
    · exact .inl hn
    · exact .inr ⟨g, cap, cur, fz, hv, hbg, by rw [hb.block g (block_lt hg)]; exact hg, rest⟩
  exact h.bld.imp (go _) (go _)
theorem QS.after {w wr w' : World} {b k : Nat} {o : Obj} {acc acc' : List UInt8} (h : QS w wr b k o acc) (h1 : Lib.BuilderAtF 75 5 w.heap.size b (.pointer (some ⟨b, 0, none⟩)) (Lib.byteCells acc') w') (h2 : Below w.heap.size wr w') (h3 : Lib.OthersKept 5 (some b) wr w') : QS w w' b k o acc' :=
  ⟨.inr h1, h3 k o h.it (fun e => h.kb (Option.some.inj e)) (fun c fz => h.noc c 5 fz), h.bel.trans h2, h.noc, h.kb⟩
theorem QS.byte {w wr : World} {b k : Nat} {o : Obj} {acc : List UInt8} (h : QS w wr b k o acc) (c : UInt8) (hl : acc.length ≤ 1000000000) :
    Calls Tryd.prog 29 #[.pointer (some ⟨b, 0, none⟩), .int .u8 (c.toNat : Int)] wr fun e w' => e = .returned .nilIface ∧ QS w w' b k o (acc ++ [c]) :=
  (Tryd.Builder_WriteByte_k w.heap.size b (Lib.byteCells acc) c.toNat wr h.bld (by rw [bytes_len]; omega) h.bel.size).mono fun e w' hh => ⟨hh.1, h.after (by rw [bytes_app]; exact hh.2.1) hh.2.2.1 hh.2.2.2⟩
theorem QS.str {w wr : World} {b k : Nat} {o : Obj} {acc : List UInt8} (h : QS w wr b k o acc) (s : ByteArray) (hl : acc.length ≤ 1000000000) (hs : s.size ≤ 1000000000) :
    Calls Tryd.prog 31 #[.pointer (some ⟨b, 0, none⟩), .string s] wr fun e w' => e = .returned (.tuple #[.int .i64 s.size, .nilIface]) ∧ QS w w' b k o (acc ++ s.data.toList) :=
  (Tryd.Builder_WriteString_k w.heap.size b (Lib.byteCells acc) s wr h.bld (by rw [bytes_len]; omega) h.bel.size).mono fun e w' hh => ⟨hh.1, h.after (by rw [bytes_app]; exact hh.2.1) hh.2.2.1 hh.2.2.2⟩
theorem QS.rune {w wr : World} {b k : Nat} {o : Obj} {acc : List UInt8} (h : QS w wr b k o acc) (r : Nat) (hr : r ≤ 2147483647) (hl : acc.length ≤ 1000000000) :
    Calls Tryd.prog 30 #[.pointer (some ⟨b, 0, none⟩), .int .i32 (r : Int)] wr fun e w' => (∃ n, e = .returned (.tuple #[.int .i64 n, .nilIface])) ∧ QS w w' b k o (acc ++ Lib.encodeRune r) :=
  (Tryd.Builder_WriteRune_k w.heap.size b (Lib.byteCells acc) r (by omega) (by omega) wr h.bld (by rw [bytes_len]; omega) h.bel.size).mono fun e w' hh => ⟨⟨_, hh.1⟩, h.after (by rw [bytes_app, ← rune_bytes]; exact hh.2.1) hh.2.2.1 hh.2.2.2⟩
theorem QS.text {w wr : World} {b k : Nat} {o : Obj} {acc : List UInt8} (h : QS w wr b k o acc) :
    Calls Tryd.prog 34 #[.pointer (some ⟨b, 0, none⟩)] wr fun e w' => e = .returned (.string ⟨acc.toArray⟩) ∧ Below w.heap.size w w' :=
  (Tryd.Builder_String_any_k w.heap.size b acc wr h.bld h.bel.size).mono fun e w' hh => ⟨hh.1, h.bel.trans hh.2.2.1⟩
theorem QS.move {w wr : World} {b k : Nat} {s : ByteArray} {pos : Nat} {acc : List UInt8} (h : QS w wr b k (.stringIter s pos) acc) (hk : w.heap.size ≤ k) (pos' : Nat) : QS w (wr.iterAt k s pos') b k (.stringIter s pos') acc :=
  ⟨h.bld.iterAt h.it pos', Lib.iterAt_heap wr k s pos pos' h.it, Lib.below_iterAt h.bel hk s pos', (by intro c t fz e; cases e), h.kb⟩

set_option maxHeartbeats 1000000 in
theorem whole_any (t : ByteArray) (w : World) (hT : Tabs w) :
    Calls Tryd.prog 32 #[.string t] w fun e w' => e = .returned (.bool (decide (1 < (Lib.decodeGo t).2))) ∧ Below w.heap.size w w' := by
  have HD : Hid (Calls Tryd.prog 76 #[.string t] w fun e w' => e = .returned (.tuple #[.int .i32 (Lib.decodeGo t).1, .int .i64 (Lib.decodeGo t).2]) ∧ Below w.heap.size w w') := Tryd.utf8_DecodeRuneInString t w hT
  generalize (Lib.decodeGo t).1 = a at *
  generalize (Lib.decodeGo t).2 = b at *
  clear hT
  go_enter Tryd.func32, Tryd.ntmps32
  go_wp2_with fail
  refine HD.out.mono ?_
  rintro e w1 ⟨rfl, hb⟩
  have HB : Hid (Below w.heap.size w w1) := hb
  clear hb
  go_wp2
  go_ret
  exact ⟨by congr 2; simp; omega, HB.out⟩
end Go.Proofs.YtpkobgnbjmefnabDoor
