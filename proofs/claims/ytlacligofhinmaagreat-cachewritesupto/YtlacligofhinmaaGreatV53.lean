import Derived.Test.YtlacligofhinmaaGreatV48
import Derived.Test.YtlacligofhinmaaGreatV49
import Derived.Test.YtlacligofhinmaaGreatV51
import Derived.Test.YtlacligofhinmaaGreatV52
namespace Go.Proofs.YtlacligofhinmaaGreat.C
open Go.RowKit Go.Maps Go.Shelf Go.Proofs.YtlacligofhinmaaGreat
attribute [local go_sem] Oper.semAt_some
set_option linter.unusedVariables false
set_option linter.unusedSimpArgs false
set_option maxRecDepth 100000

theorem ArgI.low {w w' : World} {n0 n c : Nat} {ao : Option Addr} {ks : List Int} (h : ArgI w (.slice ao n c) ks) (hb : Below n0 w w') (hl : ks ≠ [] → ∀ g off, ao = some ⟨g, off, none⟩ → g < n0) : ArgI w' (.slice ao n c) ks := by
  have hr := h.rd.2
  rcases h with h | ⟨ad, c', e, h⟩
  · exact .inl h
  · cases e
    exact .inr ⟨ad, c, rfl, h.low hb hl⟩
theorem changes_any {x : Nat} {w0 W : World} {P : Loc} {A : Qa} {S : K.Dk} {C : Ch} (h : Pq w0.heap.size W x P A S C S C) (hN : A.pot C + 2 < 1048576) (hb : Below w0.heap.size w0 W) {o : Opq} (ho : OpqOk w0 o) (m k : Int) {v : Value} {l : List (Int × Int)} (hv : ArgS w0 v l) (hl : l.length ≤ 1048576) (hw : ∀ p ∈ l, I64 p.1 ∧ I64 p.2) (hE : newE S.n k l = 0) :
    Calls Tryz.prog 11 #[.pointer (some ⟨x, 0, none⟩), .agg #[.int .i64 m, .int .i64 k, v], .agg #[.int .i64 o.kind, .int .i64 o.sector, .int .u8 o.fill, .int .i64 o.more, .slice o.lo o.list.length o.lc, .int .i64 o.f.kind, .int .i64 o.f.sector, .int .i64 o.f.after, .int .i64 o.f.times, .bool o.f.land, .slice o.ko o.keep.length o.kc]] W (ChP w0.heap.size W x S.n (A.pot C + 2)) := by
  have hlo : o.list ≠ [] → ∀ g off, o.lo = some ⟨g, off, none⟩ → g < w0.heap.size := fun hne g off e => by
    obtain ⟨y, r, hy⟩ : ∃ y r, o.list = y :: r := List.exists_cons_of_ne_nil hne
    obtain ⟨g', off', e', h1, _⟩ := ho.row.rd.2 0 y (by rw [hy]; rfl)
    rw [e] at e'
    cases e'
    exact h1
  have hko : ∀ ad, o.ko = some ad → o.keep ≠ [] → ad.block < w0.heap.size := fun ad e hne => by
    obtain ⟨b, off, e', hc⟩ := ho.kr.at_ hne
    obtain ⟨y, r, hy⟩ : ∃ y r, o.keep = y :: r := List.exists_cons_of_ne_nil hne
    have h1 := hc 0 y (by rw [hy]; rfl)
    rw [e] at e'
    cases e'
    exact cell_lt h1
  have hvl : l ≠ [] → ∀ b' off n c, v = .slice (some ⟨b', off, none⟩) n c → b' < w0.heap.size := fun hne b' off n c e => hv.lt hne e
  by_cases h1 : o.kind = 1
  · rw [h1]; exact ch_read h hN m k v o.sector o.fill o.more o.lo o.list.length o.lc o.f.kind o.f.sector o.f.after o.f.times o.f.land o.ko o.keep.length o.kc
  by_cases h2 : o.kind = 2
  · rw [h2]; exact ch_write h hN m k v o.sector o.fill o.more o.lo o.list.length o.lc o.f.kind o.f.sector o.f.after o.f.times o.f.land o.ko o.keep.length o.kc ho.fill
  by_cases h3 : o.kind = 3
  · rw [h3]; exact ch_flush h hN m k v o.sector o.fill o.more o.lo o.list.length o.lc o.f.kind o.f.sector o.f.after o.f.times o.f.land o.ko o.keep.length o.kc
  by_cases h4 : o.kind = 4
  · rw [h4]; exact ch_through h hN m k v o.sector o.fill o.more o.lo o.list.length o.lc o.f.kind o.f.sector o.f.after o.f.times o.f.land o.ko o.keep.length o.kc ho.ll (ho.row.low hb hlo) hlo
  by_cases h5 : o.kind = 5
  · rw [h5]; exact ch_back h hN m k v o.sector o.fill o.more o.lo o.list.length o.lc o.f.kind o.f.sector o.f.after o.f.times o.f.land o.ko o.keep.length o.kc
  by_cases h12 : o.kind = 12
  · rw [h12]; exact ch_fault h hN m k v o.sector o.fill o.more o.lo o.list.length o.lc o.f.kind o.f.sector o.f.after o.f.times o.f.land o.ko o.keep.length o.kc ho.fa ho.ft
  by_cases h13 : o.kind = 13
  · rw [h13]; exact ch_crash h hN m k v o.sector o.fill o.more o.lo o.list.length o.lc o.f.kind o.f.sector o.f.after o.f.times o.f.land o.ko o.keep.length o.kc (borow_low ho.kr hb hko) rfl hko (hv.low hb hvl) hvl hl hw hE
  refine ch_asks h hN m k v o.sector o.fill o.more o.lo o.list.length o.lc o.f.kind o.f.sector o.f.after o.f.times o.f.land o.ko o.keep.length o.kc o.kind h1 h2 h3 h4 h5 h12 h13 (fun X hp => ?_)
  by_cases h6 : o.kind = 6
  · rw [h6]; exact as_peek hp hN o.sector o.fill o.more o.lo o.list.length o.lc o.f.kind o.f.sector o.f.after o.f.times o.f.land o.ko o.keep.length o.kc
  by_cases h7 : o.kind = 7
  · rw [h7]; exact as_dirty hp hN o.sector o.fill o.more o.lo o.list.length o.lc o.f.kind o.f.sector o.f.after o.f.times o.f.land o.ko o.keep.length o.kc ho.sw
  by_cases h8 : o.kind = 8
  · rw [h8]; exact as_safe hp hN o.sector o.fill o.more o.lo o.list.length o.lc o.f.kind o.f.sector o.f.after o.f.times o.f.land o.ko o.keep.length o.kc ho.sw
  by_cases h9 : o.kind = 9
  · rw [h9]; exact as_lines hp hN o.sector o.fill o.more o.lo o.list.length o.lc o.f.kind o.f.sector o.f.after o.f.times o.f.land o.ko o.keep.length o.kc
  by_cases h10 : o.kind = 10
  · rw [h10]; exact as_stats hp hN o.sector o.fill o.more o.lo o.list.length o.lc o.f.kind o.f.sector o.f.after o.f.times o.f.land o.ko o.keep.length o.kc
  by_cases h11 : o.kind = 11
  · rw [h11]; exact as_disk hp hN o.sector o.fill o.more o.lo o.list.length o.lc o.f.kind o.f.sector o.f.after o.f.times o.f.land o.ko o.keep.length o.kc
  exact as_none hp hN o.sector o.fill o.more o.lo o.list.length o.lc o.f.kind o.f.sector o.f.after o.f.times o.f.land o.ko o.keep.length o.kc o.kind h6 h7 h8 h9 h10 h11
end Go.Proofs.YtlacligofhinmaaGreat.C
