import Derived.Test.YtoabigjajnikcaaTU
import Derived.Test.YtoabigjajnikcaaTX
namespace Go.Proofs.Ytoabigjajnikcaa
open Go.RowKit Go.Maps
attribute [local go_sem] Oper.semAt_some
set_option linter.unusedVariables false
set_option linter.unusedSimpArgs false
set_option maxRecDepth 100000

/-- entries in a row, which may be another's -/
structure BR (w : World) (ao : Option Addr) (L : List En) : Prop where
  at_ : ∀ k e, L[k]? = some e → ∃ g off u, ao = some ⟨g, off, none⟩ ∧ g < w.heap.size ∧ ∀ w', Below w.heap.size w w' → w'.rangeAt g (off + k * 9) (vcl u) ∧ ∃ F, PV w' F u e
theorem RR.br {w : World} {G : Nat → Prop} {p : Nat} {ao : Option Addr} {n cap : Nat} {V : Int → Value} {S : St} (h : RR w G p (.slice ao n cap) V S) : BR w ao S.L := by
  refine ⟨fun k e he => ?_⟩
  obtain ⟨g, cap', hv, _, _, _, cur, hg, _⟩ := h.at k e he
  simp only [Value.slice.injEq] at hv
  refine ⟨g, 0, V e.id, hv.1, block_lt hg, fun w' hb => ?_⟩
  have h' := h.later hb
  obtain ⟨g2, cap2, hv2, _, _, hr, _⟩ := h'.at k e he
  simp only [Value.slice.injEq] at hv2
  have e1 : g2 = g := by
    have := hv.1.symm.trans hv2.1
    simp at this; exact this.symm
  subst e1
  rw [Nat.zero_add]
  exact ⟨hr, G, h'.pv e (List.mem_of_getElem? he)⟩
theorem BR.later {w w' : World} {ao : Option Addr} {L : List En} (h : BR w ao L) (hb : Below w.heap.size w w') : BR w' ao L := by
  refine ⟨fun k e he => ?_⟩
  obtain ⟨g, off, u, e1, hg, hr⟩ := h.at_ k e he
  exact ⟨g, off, u, e1, Nat.lt_of_lt_of_le hg hb.size, fun w2 hb2 => hr w2 (hb.trans (hb2.mono hb.size))⟩
theorem pcl_len (y : Pe) : (pcl y).length = 9 := by simp [pcl, ecl]
theorem Tell.range {w : World} {B : Nat} {v : Value} {ys : List Pe} (h : Tell w B v ys) (k : Nat) (y : Pe) (hy : ys[k]? = some y) : ∃ g cap, v = .slice (some ⟨g, 0, none⟩) ys.length cap ∧ B ≤ g ∧ (∃ cs, w.heap[g]? = some (.cells cs TEn (0, 0))) ∧ w.rangeAt g (k * 9) (pcl y) := by
  have hk := (List.getElem?_eq_some_iff.1 hy).1
  rcases h.row.2 with ⟨_, h0⟩ | ⟨g, cap, cur, hv, hb, hg, _⟩
  · omega
  · subst hv
    exact ⟨g, cap, rfl, hb, ⟨cur, hg⟩, own_range _ ys h.row (fun y _ => pcl_len y) rfl k y hy⟩
set_option maxHeartbeats 8000000 in
theorem sameEns {w : World} {B : Nat} {va : Value} {ys : List Pe} {ao : Option Addr} {bc n : Nat} (L : List En) (ht : Tell w B va ys) (hys : ys.map (·.e) = L) (hb : BR w ao L) (hl : L.length ≤ 64) (HN : Hid (L.length = n)) : Calls Try.prog 30 #[va, .slice ao n bc] w fun e w' => e = .returned (.bool true) ∧ KeptIn (fun g => B ≤ g) w w' := by
  obtain ⟨a1, a2, hva⟩ := owns_form9 ht.row
  have hyl : ys.length = n := by rw [← HN.out, ← hys]; simp
  rw [hyl] at hva
  subst hva
  have HT : Hid _ := ht
  have HBr : Hid _ := hb
  rw [HN.out] at hl
  clear ht hb
  have hat : ∀ k, k < n → ∃ y, ys[k]? = some y ∧ L[k]? = some y.e := fun k hk => ⟨_, List.getElem?_eq_getElem (by omega), by rw [← hys, List.getElem?_map, List.getElem?_eq_getElem (by omega)]; rfl⟩
  have HAt : Hid _ := hat
  have HYl : Hid _ := hyl
  clear hat hys hyl
  go_enter Try.func30, Try.ntmps30
  go_wp2
  go_loopw [5, 6] (fun ok i wr => ok = .bool true ∧ ∃ k : Nat, k ≤ n ∧ i = .int .i64 (k : Int) ∧ Hid (Below w.heap.size w wr)) (fun _ i _ => n - (intOf i).toNat)
  case atStart => exact ⟨rfl, 0, Nat.zero_le _, rfl, Below.refl _ _⟩
  case round =>
    obtain ⟨rfl, k, hk, rfl, HI⟩ := hrel
    by_cases hlt : k < n
    · obtain ⟨y, hy, hLy⟩ := HAt.out k hlt
      have hTw := HT.out.later HI.out
      obtain ⟨g, cap, hv, hbg, ⟨cs, hcs⟩, hr⟩ := hTw.range k y hy
      simp only [Value.slice.injEq] at hv
      obtain ⟨rfl, hq, rfl⟩ := hv
      clear hq
      obtain ⟨gb, ob, u, rfl, hgb, hub⟩ := HBr.out.at_ k y.e hLy
      obtain ⟨hru, Fu, hpu⟩ := hub wr HI.out
      have hpy : PV wr (fun g => B ≤ g) (.agg (pcl y).toArray) y.e := (hTw.ok y (List.mem_of_getElem? hy)).ov.pv (fun g h1 h2 => Nat.le_trans (HT.out.lo y (List.mem_of_getElem? hy)) h1)
      obtain ⟨db, dd, ab, ad, hu, _, _⟩ := hpu.ex
      have HS : Hid (Calls Try.prog 46 #[.agg (pcl y).toArray, u] wr.drew fun r w' => r = .returned (.bool true) ∧ Below wr.heap.size wr w') := by
        refine (sameEn y.e wr.drew (fun g => B ≤ g) Fu _ _ (hpy.same (fun _ _ => rfl)) (hpu.same (fun _ _ => rfl))).mono ?_
        rintro r w' ⟨rfl, hb⟩
        have hb' : Below wr.heap.size wr.drew w' := hb
        exact ⟨rfl, ⟨hb'.os, hb'.tape, hb'.output, hb'.size, hb'.block⟩⟩
      subst hu
      obtain ⟨n1, hn1⟩ : ∃ n, y.e.rq.data.length = n := ⟨_, rfl⟩
      obtain ⟨n2, hn2⟩ : ∃ n, y.e.an.length = n := ⟨_, rfl⟩
      simp only [vcl, pcl, ecl, hn1, hn2] at hr hru HS
      have hga : g < wr.heap.size := block_lt hcs
      have hgb2 : gb < wr.heap.size := Nat.lt_of_lt_of_le hgb HI.out.size
      have x0 : wr.cell? ⟨g, k * 9, none⟩ = some (.int .i64 y.e.id) := hr 0 _ rfl
      have x1 : wr.cell? ⟨g, k * 9 + 1, none⟩ = some (.int .u16 y.e.rq.fl) := hr 1 _ rfl
      have x2 : wr.cell? ⟨g, k * 9 + 2, none⟩ = some (.int .u16 y.e.rq.ty) := hr 2 _ rfl
      have x3 : wr.cell? ⟨g, k * 9 + 3, none⟩ = some (.int .u64 y.e.rq.ck) := hr 3 _ rfl
      have x4 : wr.cell? ⟨g, k * 9 + 4, none⟩ = some (.int .u64 y.e.rq.off) := hr 4 _ rfl
      have x5 : wr.cell? ⟨g, k * 9 + 5, none⟩ = some (.int .u64 y.e.rq.len) := hr 5 _ rfl
      have x6 : wr.cell? ⟨g, k * 9 + 6, none⟩ = some (.slice y.da n1 y.dc) := hr 6 _ rfl
      have x7 : wr.cell? ⟨g, k * 9 + 7, none⟩ = some (.bool y.e.rd) := hr 7 _ rfl
      have x8 : wr.cell? ⟨g, k * 9 + 8, none⟩ = some (.slice y.aa n2 y.ac) := hr 8 _ rfl
      have v0 : wr.cell? ⟨gb, ob + k * 9, none⟩ = some (.int .i64 y.e.id) := hru 0 _ rfl
      have v1 : wr.cell? ⟨gb, ob + k * 9 + 1, none⟩ = some (.int .u16 y.e.rq.fl) := hru 1 _ rfl
      have v2 : wr.cell? ⟨gb, ob + k * 9 + 2, none⟩ = some (.int .u16 y.e.rq.ty) := hru 2 _ rfl
      have v3 : wr.cell? ⟨gb, ob + k * 9 + 3, none⟩ = some (.int .u64 y.e.rq.ck) := hru 3 _ rfl
      have v4 : wr.cell? ⟨gb, ob + k * 9 + 4, none⟩ = some (.int .u64 y.e.rq.off) := hru 4 _ rfl
      have v5 : wr.cell? ⟨gb, ob + k * 9 + 5, none⟩ = some (.int .u64 y.e.rq.len) := hru 5 _ rfl
      have v6 : wr.cell? ⟨gb, ob + k * 9 + 6, none⟩ = some (.slice db n1 dd) := hru 6 _ rfl
      have v7 : wr.cell? ⟨gb, ob + k * 9 + 7, none⟩ = some (.bool y.e.rd) := hru 7 _ rfl
      have v8 : wr.cell? ⟨gb, ob + k * 9 + 8, none⟩ = some (.slice ab n2 ad) := hru 8 _ rfl
      have HS2 : Hid (∀ w', Below wr.heap.size wr w' → w'.cell? ⟨g, k * 9, none⟩ = some (.int .i64 y.e.id) ∧ w'.cell? ⟨g, k * 9 + 1, none⟩ = some (.int .u16 y.e.rq.fl) ∧ w'.cell? ⟨g, k * 9 + 2, none⟩ = some (.int .u16 y.e.rq.ty) ∧ w'.cell? ⟨g, k * 9 + 3, none⟩ = some (.int .u64 y.e.rq.ck) ∧ w'.cell? ⟨g, k * 9 + 4, none⟩ = some (.int .u64 y.e.rq.off) ∧ w'.cell? ⟨g, k * 9 + 5, none⟩ = some (.int .u64 y.e.rq.len) ∧ w'.cell? ⟨g, k * 9 + 6, none⟩ = some (.slice y.da n1 y.dc) ∧ w'.cell? ⟨g, k * 9 + 7, none⟩ = some (.bool y.e.rd) ∧ w'.cell? ⟨g, k * 9 + 8, none⟩ = some (.slice y.aa n2 y.ac) ∧ w'.cell? ⟨gb, ob + k * 9, none⟩ = some (.int .i64 y.e.id) ∧ w'.cell? ⟨gb, ob + k * 9 + 1, none⟩ = some (.int .u16 y.e.rq.fl) ∧ w'.cell? ⟨gb, ob + k * 9 + 2, none⟩ = some (.int .u16 y.e.rq.ty) ∧ w'.cell? ⟨gb, ob + k * 9 + 3, none⟩ = some (.int .u64 y.e.rq.ck) ∧ w'.cell? ⟨gb, ob + k * 9 + 4, none⟩ = some (.int .u64 y.e.rq.off) ∧ w'.cell? ⟨gb, ob + k * 9 + 5, none⟩ = some (.int .u64 y.e.rq.len) ∧ w'.cell? ⟨gb, ob + k * 9 + 6, none⟩ = some (.slice db n1 dd) ∧ w'.cell? ⟨gb, ob + k * 9 + 7, none⟩ = some (.bool y.e.rd) ∧ w'.cell? ⟨gb, ob + k * 9 + 8, none⟩ = some (.slice ab n2 ad)) := fun w' hb => ⟨(cell_block (hb.block g hga)).trans x0, (cell_block (hb.block g hga)).trans x1, (cell_block (hb.block g hga)).trans x2, (cell_block (hb.block g hga)).trans x3, (cell_block (hb.block g hga)).trans x4, (cell_block (hb.block g hga)).trans x5, (cell_block (hb.block g hga)).trans x6, (cell_block (hb.block g hga)).trans x7, (cell_block (hb.block g hga)).trans x8, (cell_block (hb.block gb hgb2)).trans v0, (cell_block (hb.block gb hgb2)).trans v1, (cell_block (hb.block gb hgb2)).trans v2, (cell_block (hb.block gb hgb2)).trans v3, (cell_block (hb.block gb hgb2)).trans v4, (cell_block (hb.block gb hgb2)).trans v5, (cell_block (hb.block gb hgb2)).trans v6, (cell_block (hb.block gb hgb2)).trans v7, (cell_block (hb.block gb hgb2)).trans v8⟩
      have hkz : (k : Int) < (n : Int) := by omega
      clear hr hru hub hpy hpu hTw hn1 hn2 hcs
      go_wp2
      go_region_held3 (fun w' => w'.cell? ⟨g, k * 9, none⟩ = some (.int .i64 y.e.id) ∧ w'.cell? ⟨g, k * 9 + 1, none⟩ = some (.int .u16 y.e.rq.fl) ∧ w'.cell? ⟨g, k * 9 + 2, none⟩ = some (.int .u16 y.e.rq.ty) ∧ w'.cell? ⟨g, k * 9 + 3, none⟩ = some (.int .u64 y.e.rq.ck) ∧ w'.cell? ⟨g, k * 9 + 4, none⟩ = some (.int .u64 y.e.rq.off) ∧ w'.cell? ⟨g, k * 9 + 5, none⟩ = some (.int .u64 y.e.rq.len) ∧ w'.cell? ⟨g, k * 9 + 6, none⟩ = some (.slice y.da n1 y.dc) ∧ w'.cell? ⟨g, k * 9 + 7, none⟩ = some (.bool y.e.rd) ∧ w'.cell? ⟨g, k * 9 + 8, none⟩ = some (.slice y.aa n2 y.ac) ∧ w'.cell? ⟨gb, ob + k * 9, none⟩ = some (.int .i64 y.e.id) ∧ w'.cell? ⟨gb, ob + k * 9 + 1, none⟩ = some (.int .u16 y.e.rq.fl) ∧ w'.cell? ⟨gb, ob + k * 9 + 2, none⟩ = some (.int .u16 y.e.rq.ty) ∧ w'.cell? ⟨gb, ob + k * 9 + 3, none⟩ = some (.int .u64 y.e.rq.ck) ∧ w'.cell? ⟨gb, ob + k * 9 + 4, none⟩ = some (.int .u64 y.e.rq.off) ∧ w'.cell? ⟨gb, ob + k * 9 + 5, none⟩ = some (.int .u64 y.e.rq.len) ∧ w'.cell? ⟨gb, ob + k * 9 + 6, none⟩ = some (.slice db n1 dd) ∧ w'.cell? ⟨gb, ob + k * 9 + 7, none⟩ = some (.bool y.e.rd) ∧ w'.cell? ⟨gb, ob + k * 9 + 8, none⟩ = some (.slice ab n2 ad)) (first | exact HS2.out _ HB9.out | go_keep) (first | (go_at_call 46; refine Calls.mono HS.out ?_; rintro r w9 ⟨rfl, hb9⟩; have HB9 : Hid _ := hb9; clear hb9) | fail)
      have HI2 : Hid (Below w.heap.size w w9) := HI.out.trans (HB9.out.mono HI.out.size)
      go_wp2
      go_roundw
      case rel => exact ⟨rfl, k + 1, by omega, by go_num, HI2⟩
      case measure => simp [intOf]; omega
    · obtain rfl : k = n := by omega
      have HT1 : Hid _ := HT.out.later HI.out
      have HLo : Hid (∀ y ∈ ys, B ≤ y.lo) := HT.out.lo
      have HAp : Hid (ys.Pairwise (fun x y => x.hi ≤ y.lo)) := HT.out.ap
      go_wp2
      go_loopw [7] (fun i wr => ∃ j : Nat, j ≤ k ∧ i = .int .i64 (j : Int) ∧ Hid (wr.ownsRow B TEn 9 (.slice a1 k a2) k (ys.flatMap pcl) ∧ (∀ i y, j ≤ i → ys[i]? = some y → Ok1 wr y) ∧ KeptIn (fun g => B ≤ g) w wr)) (fun i _ => k - (intOf i).toNat)
      case atStart => exact ⟨0, Nat.zero_le _, rfl, by have := HT1.out.row; rwa [HYl.out] at this, fun i y _ hy => HT1.out.ok y (List.mem_of_getElem? hy), KeptIn.ofBelow HI.out⟩
      case round =>
        obtain ⟨j, hj, rfl, HJ⟩ := hrel
        by_cases hlt' : j < k
        · obtain ⟨y, hy, hLy⟩ := HAt.out j hlt'
          have hym := List.mem_of_getElem? hy
          have hrow := HJ.out.1
          have hok := HJ.out.2.1 j y (Nat.le_refl _) hy
          obtain ⟨g, rfl⟩ : ∃ g, a1 = some ⟨g, 0, none⟩ := by
            rcases hrow.2 with ⟨_, h0⟩ | ⟨g, c, cur, hv, _⟩
            · omega
            · simp only [Value.slice.injEq] at hv; exact ⟨g, hv.1⟩
          have hr := own_range pcl ys hrow (fun y _ => pcl_len y) HYl.out j y hy
          have z6 : wr.cell? ⟨g, j * 9 + 6, none⟩ = some (.slice y.da y.e.rq.data.length y.dc) := hr 6 _ rfl
          obtain ⟨n1, hn1⟩ : ∃ n, y.e.rq.data.length = n := ⟨_, rfl⟩
          obtain ⟨n2, hn2⟩ : ∃ n, y.e.an.length = n := ⟨_, rfl⟩
          have HN1 : Hid _ := hn1
          have HN2 : Hid _ := hn2
          rw [hn1] at z6
          obtain ⟨hgw, hgB, cs, hgc⟩ := row_typ hrow g rfl
          have HS1 : Hid _ := spoil_any y.da y.dc n1 y.lo y.e.rq.data wr (by rw [← hn1]; exact hok.ov.d) hok.ov.dlt (by rw [← hn1]; exact hok.ov.dlen)
          have HOk : Hid _ := hok
          have hkz : (j : Int) < (k : Int) := by omega
          have HY : Hid _ := hy
          have HYm : Hid _ := hym
          clear hrow hok hr hn1 hn2 hy hym hLy
          go_wp2_with fail
          refine Calls.mono HS1.out ?_
          rintro r w2 ⟨rfl, hk2⟩
          have hd2 : ∀ x, (Value.slice y.da n1 y.dc).ownBlock = some x → y.lo ≤ x ∧ x < y.hi ∧ ∃ cs, wr.heap[x]? = some (.cells cs 5 (0, 0)) := fun x hx => by
            have h1 := HOk.out.ov.d
            rw [HN1.out] at h1
            obtain ⟨cs, hc⟩ := owns_type h1 x hx
            have h2 := owns_lt h1 x hx
            cases hda : y.da with
            | none => rw [hda] at hx; simp [Value.ownBlock] at hx
            | some p =>
              rw [hda] at hx
              simp [Value.ownBlock] at hx
              subst hx
              exact ⟨h2.2, HOk.out.d p hda, cs, hc⟩
          have hrow2 : w2.ownsRow B TEn 9 (.slice (some ⟨g, 0, none⟩) k a2) k (ys.flatMap pcl) := row_at HJ.out.1 (fun x cs hx hc => hk2.block x (block_lt hc) (fun e => by
            obtain ⟨_, _, cs2, h9⟩ := hd2 x e
            rw [hc] at h9
            simp only [Option.some.injEq, Obj.cells.injEq] at h9
            exact absurd h9.2.1 (by decide)))
          have hk2' : KeptIn (fun g => B ≤ g) w w2 := HJ.out.2.2.trans (hk2.mono (T := fun g => B ≤ g) (fun x _ e => Nat.le_trans (HLo.out y HYm.out) (hd2 x e).1)) (fun _ _ hn => hn)
          have hrest2 : ∀ i z, j + 1 ≤ i → ys[i]? = some z → Ok1 w2 z := fun i z hi hz => by
            have h9 := HJ.out.2.1 i z (by omega) hz
            refine h9.same hk2.size (fun x cs hx1 hx2 hc => hk2.block x (block_lt hc) (fun e => ?_))
            have h8 := hd2 x e
            have h7 := HAp.out
            rw [List.pairwise_iff_getElem] at h7
            have h6 := h7 j i (by have := HYl.out; omega) (List.getElem?_eq_some_iff.1 hz).1 (by omega)
            have e1 := (List.getElem?_eq_some_iff.1 HY.out).2
            have e2 := (List.getElem?_eq_some_iff.1 hz).2
            rw [e1, e2] at h6
            omega
          have hr2 := own_range pcl ys hrow2 (fun y _ => pcl_len y) HYl.out j y HY.out
          have z8 : w2.cell? ⟨g, j * 9 + 8, none⟩ = some (.slice y.aa n2 y.ac) := by rw [← HN2.out]; exact hr2 8 _ rfl
          have ha2 : w2.ownsRow y.lo 5 1 (.slice y.aa n2 y.ac) n2 (y.e.an.map bv) := by
            have h1 := HOk.out.ov.a
            rw [HN2.out] at h1
            refine owns_same h1 (fun x hx => hk2.block x (owns_lt h1 x hx).1 (fun e => ?_))
            cases hda : y.da with
            | none => rw [hda] at e; simp [Value.ownBlock] at e
            | some p =>
              cases haa : y.aa with
              | none => rw [haa] at hx; simp [Value.ownBlock] at hx
              | some q =>
                rw [hda] at e
                rw [haa] at hx
                simp [Value.ownBlock] at e hx
                exact HOk.out.ov.sep p q hda haa (by rw [e, hx])
          have HS2 : Hid _ := spoil_any y.aa y.ac n2 y.lo y.e.an w2 ha2 HOk.out.ov.alt (by rw [← HN2.out]; exact HOk.out.ov.alen)
          have HR2 : Hid _ := hrow2
          have HK2 : Hid _ := hk2'
          have HRest2 : Hid _ := hrest2
          have HA2 : Hid _ := ha2
          clear hrow2 hk2' hrest2 ha2 hr2 hd2 hk2 z6 HS1
          go_wp2_with fail
          refine Calls.mono HS2.out ?_
          rintro r w3 ⟨rfl, hk3⟩
          have hd3 : ∀ x, (Value.slice y.aa n2 y.ac).ownBlock = some x → y.lo ≤ x ∧ x < y.hi ∧ ∃ cs, w2.heap[x]? = some (.cells cs 5 (0, 0)) := fun x hx => by
            obtain ⟨cs, hc⟩ := owns_type HA2.out x hx
            have h2 := owns_lt HA2.out x hx
            cases haa : y.aa with
            | none => rw [haa] at hx; simp [Value.ownBlock] at hx
            | some p =>
              rw [haa] at hx
              simp [Value.ownBlock] at hx
              subst hx
              exact ⟨h2.2, HOk.out.a p haa, cs, hc⟩
          have HJ3 : Hid (w3.ownsRow B TEn 9 (.slice (some ⟨g, 0, none⟩) k a2) k (ys.flatMap pcl) ∧ (∀ i z, j + 1 ≤ i → ys[i]? = some z → Ok1 w3 z) ∧ KeptIn (fun g => B ≤ g) w w3) := by
            refine ⟨row_at HR2.out (fun x cs hx hc => hk3.block x (block_lt hc) (fun e => ?_)), fun i z hi hz => ?_, HK2.out.trans (hk3.mono (T := fun g => B ≤ g) (fun x _ e => Nat.le_trans (HLo.out y HYm.out) (hd3 x e).1)) (fun _ _ hn => hn)⟩
            · obtain ⟨_, _, cs2, h9⟩ := hd3 x e
              rw [hc] at h9
              simp only [Option.some.injEq, Obj.cells.injEq] at h9
              exact absurd h9.2.1 (by decide)
            · refine (HRest2.out i z hi hz).same hk3.size (fun x cs hx1 hx2 hc => hk3.block x (block_lt hc) (fun e => ?_))
              have h8 := hd3 x e
              have h7 := HAp.out
              rw [List.pairwise_iff_getElem] at h7
              have h6 := h7 j i (by have := HYl.out; omega) (List.getElem?_eq_some_iff.1 hz).1 (by omega)
              have e1 := (List.getElem?_eq_some_iff.1 HY.out).2
              have e2 := (List.getElem?_eq_some_iff.1 hz).2
              rw [e1, e2] at h6
              omega
          clear HS2 HR2 HK2 HRest2 HA2 hd3 hk3 z8 HJ
          go_wp2
          go_roundw
          case rel => exact ⟨j + 1, by omega, by go_num, HJ3⟩
          case measure => simp [intOf]; omega
        · obtain rfl : j = k := by omega
          have HE : Hid _ := HJ.out.2.2
          clear HJ HT1
          go_wp2
          go_ret
          exact ⟨rfl, HE.out⟩
end Go.Proofs.Ytoabigjajnikcaa
