import Derived.Test.YtjikibhhhchgeaaDoorY22
namespace Go.Proofs.YtjikibhhhchgeaaDoor
open Go.RowKit
set_option linter.unusedVariables false
set_option linter.unusedSimpArgs false
set_option maxRecDepth 100000
/-- a row of one's own that was made since w, of n bytes -/
structure Rn (w W : World) (ao : Option Addr) (cap n : Nat) (l : List Nat) : Prop where
  own : W.ownsRow w.heap.size 5 1 (.slice ao n cap) n (l.map bv)
  len : l.length = n
  lt : ∀ x ∈ l, x < 256
  bel : Below w.heap.size w W
theorem Row.rn {w W : World} {ao : Option Addr} {cap n : Nat} {l : List Nat} (h : Row w W ao cap l) (hn : l.length = n) : Rn w W ao cap n l := by subst hn; exact ⟨h.own, rfl, h.lt, h.bel⟩
theorem Rn.row {w W : World} {ao : Option Addr} {cap n : Nat} {l : List Nat} (h : Rn w W ao cap n l) : Row w W ao cap l := by have := h.len; subst this; exact ⟨h.own, h.lt, h.bel⟩
theorem Rn.later {w W W' : World} {ao : Option Addr} {cap n : Nat} {l : List Nat} (h : Rn w W ao cap n l) (k : Below W.heap.size W W') : Rn w W' ao cap n l :=
  ⟨owns_same h.own (fun g hg => k.block g (owns_lt h.own g hg).1), h.len, h.lt, h.bel.trans (k.mono h.bel.size)⟩
theorem Rn.appended {w W w1 : World} {ao a5 : Option Addr} {cap c5 n k : Nat} {l m : List Nat} (h : Rn w W ao cap n l) (ho : w1.ownsRow w.heap.size 5 1 (.slice a5 (n + k) c5) (n + k) (l.map bv ++ m.map bv)) (hg : W.grownBy w1 (Value.slice ao n cap).ownBlock) (hm : ∀ x ∈ m, x < 256) (hk : m.length = k) : Rn w w1 a5 c5 (n + k) (l ++ m) :=
  ⟨by rw [List.map_append]; exact ho, by rw [List.length_append, h.len, hk], fun x hx => (List.mem_append.1 hx).elim (h.lt x) (hm x), h.bel.grown hg h.bel.size (fun g hg' => (owns_lt h.own g hg').2)⟩
/-- what was there ahead of an append stays, but for the row's own block -/
theorem Rn.box {w W w1 : World} {ao : Option Addr} {cap n : Nat} {l : List Nat} (h : Rn w W ao cap n l) (hg : W.grownBy w1 (Value.slice ao n cap).ownBlock) {b : Nat} {cs : Array Value} {t : TypeId} (hb : W.heap[b]? = some (.cells cs t (0, 0))) (ht : t ≠ 5) : w1.heap[b]? = some (.cells cs t (0, 0)) := by
  rw [hg.block b (block_lt hb) (fun e => ?_)]
  · exact hb
  · obtain ⟨cur, e1⟩ := owns_type h.own b e.symm
    rw [hb] at e1; simp at e1; exact ht e1.2
theorem bigRow {W Wb : World} {g m x : Nat} (hm : m ≤ 8) (h : Wb.ownsRow W.heap.size 5 1 (.slice (some ⟨g, 0, none⟩) m m) m ((bigTo x m m).map bv)) : BRow Wb (some ⟨g, 0, none⟩) m (bigTo x m m) := by
  have h' : Wb.ownsRow W.heap.size 5 1 (.slice (some ⟨g, 0, none⟩) (bigTo x m m).length m) (bigTo x m m).length ((bigTo x m m).map bv) := by rw [bigTo_length]; exact h
  obtain ⟨ao', cap', hv, hb⟩ := BRow.own h' (bigTo_lt _ _ _) (by rw [bigTo_length]; omega)
  simp only [Value.slice.injEq] at hv
  obtain ⟨rfl, _, rfl⟩ := hv
  exact hb
set_option maxHeartbeats 2000000 in
theorem rError_ok1 (c : Nat) (s : ByteArray) (a : Nat) (w : World) (h1 : c < 4294967296) (h2 : a < 18446744073709551616) (ht : tx s = true) :
    Calls Tryd.prog 44 #[.agg #[.int .u32 (c : Int), .string s, .bool true, .int .u64 (a : Int)]] w fun e w' => Pk w (erL1 c s a) 0 e w' := by
  obtain ⟨i0, hi, hz0, hz1, hz2⟩ := info_parts Tryd.info5
  have hwl : IntKind.u64.wrap (c : Int) = (c : Int) := by rw [IntKind.wrap_u64]; omega
  have hws : IntKind.u64.wrap ((s.size : Nat) : Int) = ((s.size : Nat) : Int) := by have := (tx_true ht).1; rw [IntKind.wrap_u64]; omega
  have HI : Hid (∀ W, Calls Tryd.prog 96 #[.string s] W fun e w' => e = .returned (.bool true) ∧ Below W.heap.size W w') := fun W => by have h := rText_any s W (by first | omega | exact hs | (have := (tx_true ht).1; omega)); rw [ht] at h; exact h
  obtain ⟨hs4, _⟩ := tx_true ht
  clear ht
  have hx := mkb1 w #[.int .u32 (c : Int), .string s, .bool true, .int .u64 (a : Int)] 42
  go_enter Tryd.func44, Tryd.ntmps44
  go_wp2_with fail
  generalize w.alloc (Obj.cells #[.int .u32 (c : Int), .string s, .bool true, .int .u64 (a : Int)] 42) = W0 at *
  refine (HI.out _).mono ?_
  rintro e W1 ⟨rfl, hb⟩
  have HY : Hid (Bx1 w W1 #[.int .u32 (c : Int), .string s, .bool true, .int .u64 (a : Int)] 42) := hx.later hb
  clear hx hb HI
  have k0 := blk_at HY.out.a 0
  have k1 := blk_at HY.out.a 1
  have k2 := blk_at HY.out.a 2
  have k3 := blk_at HY.out.a 3
  simp at k0 k1 k2 k3
  have KB : Hid (Below W1.heap.size W1 (W1.alloc (.cells #[.int .u64 (c : Int), .int .i64 4, .int .u64 (s.size : Int), .int .i64 2] TFd))) := below1 _ _
  have q0 := cell_later KB.out k0
  have q1 := cell_later KB.out k1
  have q2 := cell_later KB.out k2
  have q3 := cell_later KB.out k3
  obtain ⟨Wc, cp, hcv, hbc, hrc⟩ := conv_any s (W1.alloc (.cells #[.int .u64 (c : Int), .int .i64 4, .int .u64 (s.size : Int), .int .i64 2] TFd)) hs4
  rw [size1] at hcv hrc
  have HC : Hid (Below (W1.alloc (.cells #[.int .u64 (c : Int), .int .i64 4, .int .u64 (s.size : Int), .int .i64 2] TFd)).heap.size (W1.alloc (.cells #[.int .u64 (c : Int), .int .i64 4, .int .u64 (s.size : Int), .int .i64 2] TFd)) Wc ∧ BRow Wc (some ⟨W1.heap.size + 1, 0, none⟩) cp (sbytes s)) := ⟨hbc, hrc⟩
  clear hbc hrc
  go_wp2_with fail
  clear k0 q0 k1 q1 k2 q2 k3 q3
  clear hcv
  refine (layR (w := w) [(c, 4), (s.size, 2)] 2 _ rfl HY.out.bel rfl (by simp; omega) (by decide) HC.out.1 _ cp s.size (sbytes s) HC.out.2 (sbytes_length s) (by omega) (erL0 c s) (by simp [layF, erL0])).mono ?_
  rintro e Wz ⟨az, cz, mz, rfl, hmz, hrz, hbz⟩
  have hmz2 : mz ≤ 5000 := by rw [← hmz]; simp [erL0, bigTo_length, sbytes_length]; omega
  have HR : Hid (Rn w Wz az cz mz (erL0 c s)) := hrz.rn hmz
  have HYz : Hid (Wz.heap[w.heap.size]? = some (.cells #[.int .u32 (c : Int), .string s, .bool true, .int .u64 (a : Int)] 42 (0, 0))) := box_later HY.out.a hbz
  clear hrz hmz hbz HC
  have k2 := blk_at HYz.out 2
  have k3 := blk_at HYz.out 3
  simp at k2 k3
  go_wp2_with fail
  refine (rbig_any a 8 Wz h2 (by decide)).mono ?_
  rintro e Wyb ⟨rfl, hob, hbb⟩
  have HBB : Hid (Below Wz.heap.size Wz Wyb ∧ BRow Wyb (some ⟨Wz.heap.size, 0, none⟩) 8 (bigTo a 8 8)) := ⟨hbb, bigRow (by decide) hob⟩
  have HRb : Hid (Rn w Wyb az cz mz (erL0 c s)) := HR.out.later hbb
  clear hob hbb
  go_wp2_with (at_builtin; refine wpList_append_two _ rfl (.tmp 35) (.tmp 38) 25 rfl w.heap.size 5 i0 (.int .u8 0) 1 Tryd.underlying25 hi hz0 hz1 hz2 rfl (.slice az mz cz) mz ((erL0 c s).map bv) rfl HRb.out.own (some ⟨Wz.heap.size, 0, none⟩) 8 8 ((bigTo a 8 8).map bv) rfl HBB.out.2.nil' (by simp [bigTo_length]) HBB.out.2.news (bv_one _) (by unfold maxLen; omega) (by omega) HRb.out.bel.size ?_)
  intro v' Wy ho hg hf
  obtain ⟨aWy, cWy, rfl⟩ := owns_form ho
  have HWy : Hid (Rn w Wy aWy cWy (mz + 8) ((erL0 c s) ++ bigTo a 8 8)) := HRb.out.appended ho hg (bigTo_lt _ _ _) (bigTo_length _ _ _)
  have HYWy : Hid (Wy.heap[w.heap.size]? = some (.cells #[.int .u32 (c : Int), .string s, .bool true, .int .u64 (a : Int)] 42 (0, 0))) := HRb.out.box hg (box_later HYz.out HBB.out.1) (by decide)
  clear ho hg hf HBB HRb
  clear k2 k3
  go_wp2
  go_ret2
  have e9 : erL0 c s ++ bigTo a 8 8 = erL1 c s a := by simp [erL0, erL1]
  have h9 := HWy.out
  rw [e9] at h9
  exact ⟨_, _, _, rfl, h9.len, h9.row⟩
/-- numbers of two bytes in memory -/
structure U16s (w : World) (ao : Option Addr) (l : List Nat) : Prop where
  lt : ∀ x ∈ l, x < 65536
  at_ : l ≠ [] → ∃ b off, ao = some ⟨b, off, none⟩ ∧ ∀ k (hk : k < l.length), w.cell? ⟨b, off + k, none⟩ = some (.int .u16 ((l[k] : Nat) : Int))
theorem U16s.later {w w' : World} {ao : Option Addr} {l : List Nat} (h : U16s w ao l) (hb : Below w.heap.size w w') : U16s w' ao l :=
  ⟨h.lt, fun hl => by obtain ⟨b, off, e, hc⟩ := h.at_ hl; exact ⟨b, off, e, fun k hk => cell_later hb (hc k hk)⟩⟩
def u16L (l : List Nat) : List Nat := l.flatMap (fun x => bigTo x 2 2)
theorem u16L_snoc (l : List Nat) (x : Nat) : u16L (l ++ [x]) = u16L l ++ bigTo x 2 2 := by simp [u16L]
theorem u16L_len : ∀ l : List Nat, (u16L l).length = 2 * l.length
  | [] => rfl
  | x :: l => by
    have h := u16L_len l
    simp only [u16L, List.flatMap_cons, List.length_append, bigTo_length, List.length_cons] at h ⊢
    omega
def irL (s : ByteArray) (ks : List Nat) : List Nat := [] ++ (bigTo s.size 4 4 ++ sbytes s) ++ bigTo ks.length 2 2 ++ u16L ks
set_option maxHeartbeats 2000000 in
theorem rInfoReq_ok (s : ByteArray) (ia : Option Addr) (k ic : Nat) (ks : List Nat) (w : World) (hu : U16s w ia ks) (hks : ks.length = k) (hk : k ≤ 64) (ht : tx s = true) :
    Calls Tryd.prog 39 #[.agg #[.string s, .slice ia k ic]] w fun e w' => Pk w (irL s ks) 0 e w' := by
  obtain ⟨i0, hi, hz0, hz1, hz2⟩ := info_parts Tryd.info5
  have hws : IntKind.u64.wrap ((s.size : Nat) : Int) = ((s.size : Nat) : Int) := by have := (tx_true ht).1; rw [IntKind.wrap_u64]; omega
  have hwk : IntKind.u64.wrap (k : Int) = (k : Int) := by rw [IntKind.wrap_u64]; omega
  have HU : Hid (U16s w ia ks) := hu
  have HKs : Hid (ks.length = k) := hks
  have f64 : decide ((64 : Int) < (k : Int)) = false := by simp; omega
  clear hu hks
  have HI : Hid (∀ W, Calls Tryd.prog 96 #[.string s] W fun e w' => e = .returned (.bool true) ∧ Below W.heap.size W w') := fun W => by have h := rText_any s W (by first | omega | exact hs | (have := (tx_true ht).1; omega)); rw [ht] at h; exact h
  obtain ⟨hs4, _⟩ := tx_true ht
  clear ht
  have hx := mkb1 w #[.string s, .slice ia k ic] 30
  go_enter Tryd.func39, Tryd.ntmps39
  go_wp2_with fail
  generalize w.alloc (Obj.cells #[.string s, .slice ia k ic] 30) = W0 at *
  refine (HI.out _).mono ?_
  rintro e W1 ⟨rfl, hb⟩
  have HY : Hid (Bx1 w W1 #[.string s, .slice ia k ic] 30) := hx.later hb
  clear hx hb HI
  have k0 := blk_at HY.out.a 0
  have k1 := blk_at HY.out.a 1
  simp at k0 k1
  have KB : Hid (Below W1.heap.size W1 (W1.alloc (.cells #[.int .u64 (s.size : Int), .int .i64 4] TFd))) := below1 _ _
  have q0 := cell_later KB.out k0
  have q1 := cell_later KB.out k1
  obtain ⟨Wc, cp, hcv, hbc, hrc⟩ := conv_any s (W1.alloc (.cells #[.int .u64 (s.size : Int), .int .i64 4] TFd)) hs4
  rw [size1] at hcv hrc
  have HC : Hid (Below (W1.alloc (.cells #[.int .u64 (s.size : Int), .int .i64 4] TFd)).heap.size (W1.alloc (.cells #[.int .u64 (s.size : Int), .int .i64 4] TFd)) Wc ∧ BRow Wc (some ⟨W1.heap.size + 1, 0, none⟩) cp (sbytes s)) := ⟨hbc, hrc⟩
  clear hbc hrc
  go_wp2_with fail
  clear k0 q0 k1 q1
  clear hcv
  refine (layR (w := w) [(s.size, 4)] 1 _ rfl HY.out.bel rfl (by simp; omega) (by decide) HC.out.1 _ cp s.size (sbytes s) HC.out.2 (sbytes_length s) (by omega) (bigTo s.size 4 4 ++ sbytes s) (by simp [layF])).mono ?_
  rintro e Wz ⟨az, cz, mz, rfl, hmz, hrz, hbz⟩
  have hmz2 : mz ≤ 5000 := by rw [← hmz]; simp [bigTo_length, sbytes_length]; omega
  have HR : Hid (Rn w Wz az cz mz (bigTo s.size 4 4 ++ sbytes s)) := hrz.rn hmz
  have HYz : Hid (Wz.heap[w.heap.size]? = some (.cells #[.string s, .slice ia k ic] 30 (0, 0))) := box_later HY.out.a hbz
  clear hrz hmz hbz HC
  have k1 := blk_at HYz.out 1
  simp at k1
  go_wp2_with fail
  refine (rbig_any k 2 Wz (by omega) (by decide)).mono ?_
  rintro e Wyb ⟨rfl, hob, hbb⟩
  have HBB : Hid (Below Wz.heap.size Wz Wyb ∧ BRow Wyb (some ⟨Wz.heap.size, 0, none⟩) 2 (bigTo k 2 2)) := ⟨hbb, bigRow (by decide) hob⟩
  have HRb : Hid (Rn w Wyb az cz mz (bigTo s.size 4 4 ++ sbytes s)) := HR.out.later hbb
  clear hob hbb
  go_wp2_with (at_builtin; refine wpList_append_two _ rfl (.tmp 24) (.tmp 29) 25 rfl w.heap.size 5 i0 (.int .u8 0) 1 Tryd.underlying25 hi hz0 hz1 hz2 rfl (.slice az mz cz) mz ((bigTo s.size 4 4 ++ sbytes s).map bv) rfl HRb.out.own (some ⟨Wz.heap.size, 0, none⟩) 2 2 ((bigTo k 2 2).map bv) rfl HBB.out.2.nil' (by simp [bigTo_length]) HBB.out.2.news (bv_one _) (by unfold maxLen; omega) (by omega) HRb.out.bel.size ?_)
  intro v' Wy ho hg hf
  obtain ⟨aWy, cWy, rfl⟩ := owns_form ho
  have HWy : Hid (Rn w Wy aWy cWy (mz + 2) ((bigTo s.size 4 4 ++ sbytes s) ++ bigTo k 2 2)) := HRb.out.appended ho hg (bigTo_lt _ _ _) (bigTo_length _ _ _)
  have HYWy : Hid (Wy.heap[w.heap.size]? = some (.cells #[.string s, .slice ia k ic] 30 (0, 0))) := HRb.out.box hg (box_later HYz.out HBB.out.1) (by decide)
  clear ho hg hf HBB HRb
  clear k1
  go_wp2
  go_loopw [4, 5] (fun bvv iv wr => ∃ (j a5 c5 : _) , j ≤ k ∧ iv = .int .i64 (j : Nat) ∧ bvv = .slice a5 (mz + 2 + 2 * j) c5 ∧ Hid (Rn w wr a5 c5 (mz + 2 + 2 * j) ((bigTo s.size 4 4 ++ sbytes s) ++ bigTo k 2 2 ++ u16L (ks.take j)) ∧ wr.heap[w.heap.size]? = some (.cells #[.string s, .slice ia k ic] 30 (0, 0)))) (fun _ iv _ => k - (intOf iv).toNat)
  case atStart => exact ⟨0, aWy, cWy, Nat.zero_le _, rfl, rfl, by simpa [u16L] using HWy.out, HYWy.out⟩
  case round =>
    obtain ⟨j, a5, c5, hj, rfl, rfl, HI5⟩ := hrel
    have q1 := blk_at HI5.out.2 1
    simp at q1
    by_cases hlt : j < k
    · have hne : ks ≠ [] := by rintro rfl; have := HKs.out; simp at this; omega
      obtain ⟨b, off, rfl, hrow⟩ := (HU.out.later HI5.out.1.bel).at_ hne
      have hjl : j < ks.length := by rw [HKs.out]; exact hlt
      obtain ⟨v, hv⟩ : ∃ v, ks[j] = v := ⟨_, rfl⟩
      have hcell := hrow j hjl
      rw [hv] at hcell
      have hv16 : v < 65536 := by rw [← hv]; exact HU.out.lt _ (List.getElem_mem hjl)
      have hwv : IntKind.u64.wrap (v : Int) = (v : Int) := by rw [IntKind.wrap_u64]; omega
      have HT : Hid (u16L (ks.take (j + 1)) = u16L (ks.take j) ++ bigTo v 2 2) := by show _ = _; rw [List.take_add_one, List.getElem?_eq_getElem hjl, hv]; exact u16L_snoc _ _
      have HRj : Hid (Rn w wr a5 c5 (mz + 2 + 2 * j) ((bigTo s.size 4 4 ++ sbytes s) ++ bigTo k 2 2 ++ u16L (ks.take j))) := HI5.out.1
      clear hrow hv hne hjl
      obtain ⟨LL, hLL⟩ : ∃ LL, (bigTo s.size 4 4 ++ sbytes s) ++ bigTo k 2 2 ++ u16L (ks.take j) = LL := ⟨_, rfl⟩
      rw [hLL] at HRj
      have HLL : Hid ((bigTo s.size 4 4 ++ sbytes s) ++ bigTo k 2 2 ++ u16L (ks.take j) = LL) := hLL
      clear hLL
      go_wp2_with fail
      refine (rbig_any v 2 wr (by omega) (by decide)).mono ?_
      rintro e Wxb ⟨rfl, hob, hbb⟩
      have HBB : Hid (Below wr.heap.size wr Wxb ∧ BRow Wxb (some ⟨wr.heap.size, 0, none⟩) 2 (bigTo v 2 2)) := ⟨hbb, bigRow (by decide) hob⟩
      have HRb : Hid (Rn w Wxb a5 c5 (mz + 2 + 2 * j) (LL)) := HRj.out.later hbb
      clear hob hbb
      go_wp2_with (at_builtin; refine wpList_append_two _ rfl (.tmp 38) (.tmp 45) 25 rfl w.heap.size 5 i0 (.int .u8 0) 1 Tryd.underlying25 hi hz0 hz1 hz2 rfl (.slice a5 (mz + 2 + 2 * j) c5) (mz + 2 + 2 * j) ((LL).map bv) rfl HRb.out.own (some ⟨wr.heap.size, 0, none⟩) 2 2 ((bigTo v 2 2).map bv) rfl HBB.out.2.nil' (by simp [bigTo_length]) HBB.out.2.news (bv_one _) (by unfold maxLen; omega) (by omega) HRb.out.bel.size ?_)
      intro v' Wx ho hg hf
      obtain ⟨aWx, cWx, rfl⟩ := owns_form ho
      have HWx : Hid (Rn w Wx aWx cWx ((mz + 2 + 2 * j) + 2) ((LL) ++ bigTo v 2 2)) := HRb.out.appended ho hg (bigTo_lt _ _ _) (bigTo_length _ _ _)
      have HYWx : Hid (Wx.heap[w.heap.size]? = some (.cells #[.string s, .slice (some ⟨b, off, none⟩) k ic] 30 (0, 0))) := HRb.out.box hg (box_later HI5.out.2 HBB.out.1) (by decide)
      clear ho hg hf HBB HRb
      have HN : Hid (Rn w Wx aWx cWx (mz + 2 + 2 * (j + 1)) ((bigTo s.size 4 4 ++ sbytes s) ++ bigTo k 2 2 ++ u16L (ks.take (j + 1)))) := by
        have h := HWx.out
        rw [← HLL.out, List.append_assoc, ← HT.out] at h
        exact h
      clear q1 hcell
      go_wp2
      go_roundw
      case rel => exact ⟨j + 1, aWx, cWx, by omega, by go_num, rfl, HN.out, HYWx.out⟩
      case measure => simp [intOf]; omega
    · have e9 : (bigTo s.size 4 4 ++ sbytes s) ++ bigTo k 2 2 ++ u16L (ks.take j) = irL s ks := by
        have e1 : ks.take j = ks := List.take_of_length_le (by rw [HKs.out]; omega)
        rw [e1]; simp [irL, HKs.out]
      have h9 := HI5.out.1
      rw [e9] at h9
      have H9 : Hid (Rn w wr a5 c5 (mz + 2 + 2 * j) (irL s ks)) := h9
      clear h9 e9
      go_wp2
      go_ret2
      exact ⟨_, _, _, rfl, H9.out.len, H9.out.row⟩
set_option maxHeartbeats 2000000 in
theorem rInfoReq_bad (s : ByteArray) (ia : Option Addr) (k ic : Nat) (w : World) (hs : s.size ≤ 9223372036854775807) (ht : tx s = false) :
    Calls Tryd.prog 39 #[.agg #[.string s, .slice ia k ic]] w fun e w' => Pk w [] 81 e w' := by
  have HI : Hid (∀ W, Calls Tryd.prog 96 #[.string s] W fun e w' => e = .returned (.bool false) ∧ Below W.heap.size W w') := fun W => by have h := rText_any s W (by first | omega | exact hs | (have := (tx_true ht).1; omega)); rw [ht] at h; exact h
  clear ht
  have hx := mkb1 w #[.string s, .slice ia k ic] 30
  go_enter Tryd.func39, Tryd.ntmps39
  go_wp2_with fail
  generalize w.alloc (Obj.cells #[.string s, .slice ia k ic] 30) = W0 at *
  refine (HI.out _).mono ?_
  rintro e W1 ⟨rfl, hb⟩
  have HY : Hid (Bx1 w W1 #[.string s, .slice ia k ic] 30) := hx.later hb
  clear hx hb HI
  go_wp2
  go_ret2
  exact pk_none HY.out.bel
set_option maxHeartbeats 2000000 in
theorem rInfoReq_many (s : ByteArray) (ia : Option Addr) (k ic : Nat) (w : World) (hs : s.size ≤ 9223372036854775807) (ht : tx s = true) (hk : 64 < k) :
    Calls Tryd.prog 39 #[.agg #[.string s, .slice ia k ic]] w fun e w' => Pk w [] 170 e w' := by
  have f64 : decide ((64 : Int) < (k : Int)) = true := by simp; omega
  have HI : Hid (∀ W, Calls Tryd.prog 96 #[.string s] W fun e w' => e = .returned (.bool true) ∧ Below W.heap.size W w') := fun W => by have h := rText_any s W (by first | omega | exact hs | (have := (tx_true ht).1; omega)); rw [ht] at h; exact h
  obtain ⟨hs4, _⟩ := tx_true ht
  clear ht
  have hx := mkb1 w #[.string s, .slice ia k ic] 30
  go_enter Tryd.func39, Tryd.ntmps39
  go_wp2_with fail
  generalize w.alloc (Obj.cells #[.string s, .slice ia k ic] 30) = W0 at *
  refine (HI.out _).mono ?_
  rintro e W1 ⟨rfl, hb⟩
  have HY : Hid (Bx1 w W1 #[.string s, .slice ia k ic] 30) := hx.later hb
  clear hx hb HI
  have k1 := blk_at HY.out.a 1
  simp at k1
  go_wp2
  go_ret2
  exact pk_none HY.out.bel
end Go.Proofs.YtjikibhhhchgeaaDoor
