import Derived.Test.YtjikibhhhchgeaaDoorY21
import Derived.Test.YtjikibhhhchgeaaDoorY17
namespace Go.Proofs.YtjikibhhhchgeaaDoor
open Go.RowKit
set_option linter.unusedVariables false
set_option linter.unusedSimpArgs false
set_option maxRecDepth 100000
theorem brow_nil' (w : World) : BRow w none 0 [] := ⟨by simp, by simp, fun _ => ⟨rfl, rfl⟩, fun h => absurd rfl h⟩
/-- Lay over what was just built, with a row behind -/
theorem layR {w W : World} (F : List (Nat × Nat)) (k0 : Nat) (cs : Array Value) (hcs : cs = (fcells F).toArray) (hb : Below w.heap.size w W) (hk0 : F.length = k0) (h8 : ∀ x ∈ F, x.1 < 18446744073709551616 ∧ 1 ≤ x.2 ∧ x.2 ≤ 8) (hk : k0 ≤ 10) {W' : World} (hb' : Below (W.alloc (.cells cs TFd)).heap.size (W.alloc (.cells cs TFd)) W') (ao : Option Addr) (cap n : Nat) (d : List Nat) (hd : BRow W' ao cap d) (hn : d.length = n) (hn2 : n ≤ 1099511627776) (L : List Nat) (hL : layF F ++ d = L) :
    Calls Tryd.prog 88 #[.slice (some ⟨W.heap.size, 0, none⟩) k0 k0, .slice ao n cap] W' fun e w' => ∃ ao' cap' m, e = .returned (.slice ao' m cap') ∧ L.length = m ∧ Row w w' ao' cap' L ∧ Below W.heap.size W w' := by
  subst hcs; subst hL; subst hn
  have hF : W'.heap[W.heap.size]? = some (.cells (fcells F).toArray TFd (0, 0)) := by rw [hb'.block _ (by simp)]; exact heap_new W _
  have hbel : Below w.heap.size w W' := (hb.alloc hb.size _).trans (hb'.mono (by have := (hb.alloc hb.size (.cells (fcells F).toArray TFd)).size; exact this))
  exact (lay_ok F W.heap.size k0 ao cap d W' hF hk0 h8 hk hd hn2).mono fun e w' ⟨a2, c2, h1, h2⟩ => ⟨a2, c2, _, h1, rfl, ⟨owns_mono h2.own hbel.size, h2.lt, hbel.trans (h2.bel.mono hbel.size)⟩, (below1 W _).trans ((hb'.mono (below1 W _).size).trans (h2.bel.mono (Nat.le_trans (below1 W _).size hb'.size)))⟩
set_option maxHeartbeats 2000000 in
theorem rHole (off ln : Nat) (w : World) (h1 : off < 18446744073709551616) (h2 : ln < 4294967296) :
    Calls Tryd.prog 46 #[.agg #[.int .u64 (off : Int), .int .u32 (ln : Int)]] w fun e w' => ∃ ao cap n, e = .returned (.slice ao n cap) ∧ (hoL off ln).length = n ∧ Row w w' ao cap (hoL off ln) := by
  have hwl : IntKind.u64.wrap (ln : Int) = (ln : Int) := by rw [IntKind.wrap_u64]; omega
  have hx := mkb1 w #[.int .u64 (off : Int), .int .u32 (ln : Int)] 46
  go_enter Tryd.func46, Tryd.ntmps46
  go_upto_region 1 with fail
  generalize w.alloc (Obj.cells #[.int .u64 (off : Int), .int .u32 (ln : Int)] 46) = W1 at *
  have HY : Hid (Bx1 w W1 #[.int .u64 (off : Int), .int .u32 (ln : Int)] 46) := hx
  clear hx
  have k0 := blk_at HY.out.a 0
  have k1 := blk_at HY.out.a 1
  simp at k0 k1
  have KB : Hid (Below W1.heap.size W1 (W1.alloc (.cells #[.int .u64 (off : Int), .int .i64 8, .int .u64 (ln : Int), .int .i64 4] TFd))) := below1 _ _
  have q0 := cell_later KB.out k0
  have q1 := cell_later KB.out k1
  go_wp2_with fail
  clear k0 q0 k1 q1
  refine (layR (w := w) [(off, 8), (ln, 4)] 2 _ rfl HY.out.bel rfl (by simp; omega) (by decide) (Below.refl _ _) none 0 0 [] (brow_nil' _) rfl (by omega) (hoL off ln) (by simp [layF, hoL])).mono ?_
  rintro e Wz ⟨az, cz, mz, rfl, hmz, hrz, hbz⟩
  have HZ : Hid _ := hrz
  have HMZ : Hid ((hoL off ln).length = mz) := hmz
  clear hrz hmz hbz
  go_wp2
  go_ret
  exact ⟨_, _, mz, rfl, HMZ.out, HZ.out⟩
set_option maxHeartbeats 2000000 in
theorem rData_ok (off n : Nat) (da : Option Addr) (dc : Nat) (m : List Nat) (w : World) (h1 : off < 18446744073709551616) (hr : BRow w da dc m) (hm0 : m.length = n) (hn : 0 < n) (hn2 : n ≤ 1099511627776) :
    Calls Tryd.prog 45 #[.agg #[.int .u64 (off : Int), .slice da n dc]] w fun e w' => Pk w (daL off m) 0 e w' := by
  have HBR : Hid (BRow w da dc m) := hr
  have HM0 : Hid (m.length = n) := hm0
  have f0 : ((n : Int) == 0) = false := by rw [beq_eq_false_iff_ne]; omega
  clear hr hm0
  have hx := mkb1 w #[.int .u64 (off : Int), .slice da n dc] 44
  go_enter Tryd.func45, Tryd.ntmps45
  go_upto_region 1 with fail
  generalize w.alloc (Obj.cells #[.int .u64 (off : Int), .slice da n dc] 44) = W1 at *
  have HY : Hid (Bx1 w W1 #[.int .u64 (off : Int), .slice da n dc] 44) := hx
  clear hx
  have k0 := blk_at HY.out.a 0
  have k1 := blk_at HY.out.a 1
  simp at k0 k1
  have KB : Hid (Below W1.heap.size W1 (W1.alloc (.cells #[.int .u64 (off : Int), .int .i64 8] TFd))) := below1 _ _
  have q0 := cell_later KB.out k0
  have q1 := cell_later KB.out k1
  go_wp2_with fail
  clear k0 q0 k1 q1
  refine (layR (w := w) [(off, 8)] 1 _ rfl HY.out.bel rfl (by simp; omega) (by decide) (Below.refl _ _) da dc n m (HBR.out.later (HY.out.bel.alloc HY.out.bel.size _)) HM0.out hn2 (daL off m) (by simp [layF, daL])).mono ?_
  rintro e Wz ⟨az, cz, mz, rfl, hmz, hrz, hbz⟩
  have HZ : Hid _ := hrz
  have HMZ : Hid ((daL off m).length = mz) := hmz
  clear hrz hmz hbz
  go_wp2
  go_ret2
  exact ⟨_, _, mz, rfl, HMZ.out, HZ.out⟩
set_option maxHeartbeats 2000000 in
theorem rData_bad (off : Nat) (da : Option Addr) (dc : Nat) (w : World) :
    Calls Tryd.prog 45 #[.agg #[.int .u64 (off : Int), .slice da 0 dc]] w fun e w' => Pk w [] 81 e w' := by
  have hx := mkb1 w #[.int .u64 (off : Int), .slice da 0 dc] 44
  go_enter Tryd.func45, Tryd.ntmps45
  go_wp2
  go_ret2
  exact pk_none hx.bel
set_option maxHeartbeats 2000000 in
theorem rMeta_ok (c : Nat) (s : ByteArray) (w : World) (h1 : c < 4294967296) (ht : tx s = true) :
    Calls Tryd.prog 41 #[.agg #[.int .u32 (c : Int), .string s]] w fun e w' => Pk w (meL c s) 0 e w' := by
  have hwl : IntKind.u64.wrap (c : Int) = (c : Int) := by rw [IntKind.wrap_u64]; omega
  have HI : Hid (∀ W, Calls Tryd.prog 96 #[.string s] W fun e w' => e = .returned (.bool true) ∧ Below W.heap.size W w') := fun W => by have h := rText_any s W (by first | omega | exact hs | (have := (tx_true ht).1; omega)); rw [ht] at h; exact h
  obtain ⟨hs4, _⟩ := tx_true ht
  clear ht
  have hx := mkb1 w #[.int .u32 (c : Int), .string s] 35
  go_enter Tryd.func41, Tryd.ntmps41
  go_wp2_with fail
  generalize w.alloc (Obj.cells #[.int .u32 (c : Int), .string s] 35) = W0 at *
  refine (HI.out _).mono ?_
  rintro e W1 ⟨rfl, hb⟩
  have HY : Hid (Bx1 w W1 #[.int .u32 (c : Int), .string s] 35) := hx.later hb
  clear hx hb HI
  have k0 := blk_at HY.out.a 0
  have k1 := blk_at HY.out.a 1
  simp at k0 k1
  have KB : Hid (Below W1.heap.size W1 (W1.alloc (.cells #[.int .u64 (c : Int), .int .i64 4] TFd))) := below1 _ _
  have q0 := cell_later KB.out k0
  have q1 := cell_later KB.out k1
  obtain ⟨Wc, cp, hcv, hbc, hrc⟩ := conv_any s (W1.alloc (.cells #[.int .u64 (c : Int), .int .i64 4] TFd)) hs4
  rw [size1] at hcv hrc
  have HC : Hid (Below (W1.alloc (.cells #[.int .u64 (c : Int), .int .i64 4] TFd)).heap.size (W1.alloc (.cells #[.int .u64 (c : Int), .int .i64 4] TFd)) Wc ∧ BRow Wc (some ⟨W1.heap.size + 1, 0, none⟩) cp (sbytes s)) := ⟨hbc, hrc⟩
  clear hbc hrc
  go_wp2_with fail
  clear k0 q0 k1 q1
  clear hcv
  refine (layR (w := w) [(c, 4)] 1 _ rfl HY.out.bel rfl (by simp; omega) (by decide) HC.out.1 _ cp s.size (sbytes s) HC.out.2 (sbytes_length s) (by omega) (meL c s) (by simp [layF, meL])).mono ?_
  rintro e Wz ⟨az, cz, mz, rfl, hmz, hrz, hbz⟩
  have HZ : Hid _ := hrz
  have HMZ : Hid ((meL c s).length = mz) := hmz
  clear hrz hmz hbz
  go_wp2
  go_ret2
  exact ⟨_, _, mz, rfl, HMZ.out, HZ.out⟩
set_option maxHeartbeats 2000000 in
theorem rMeta_bad (c : Nat) (s : ByteArray) (w : World) (hs : s.size ≤ 9223372036854775807) (ht : tx s = false) :
    Calls Tryd.prog 41 #[.agg #[.int .u32 (c : Int), .string s]] w fun e w' => Pk w [] 81 e w' := by
  have HI : Hid (∀ W, Calls Tryd.prog 96 #[.string s] W fun e w' => e = .returned (.bool false) ∧ Below W.heap.size W w') := fun W => by have h := rText_any s W (by first | omega | exact hs | (have := (tx_true ht).1; omega)); rw [ht] at h; exact h
  clear ht
  have hx := mkb1 w #[.int .u32 (c : Int), .string s] 35
  go_enter Tryd.func41, Tryd.ntmps41
  go_wp2_with fail
  generalize w.alloc (Obj.cells #[.int .u32 (c : Int), .string s] 35) = W0 at *
  refine (HI.out _).mono ?_
  rintro e W1 ⟨rfl, hb⟩
  have HY : Hid (Bx1 w W1 #[.int .u32 (c : Int), .string s] 35) := hx.later hb
  clear hx hb HI
  go_wp2
  go_ret2
  exact pk_none HY.out.bel
set_option maxHeartbeats 2000000 in
theorem rError_ok0 (c : Nat) (s : ByteArray) (a : Nat) (w : World) (h1 : c < 4294967296) (ha : a = 0) (ht : tx s = true) :
    Calls Tryd.prog 44 #[.agg #[.int .u32 (c : Int), .string s, .bool false, .int .u64 (a : Int)]] w fun e w' => Pk w (erL0 c s) 0 e w' := by
  have hwl : IntKind.u64.wrap (c : Int) = (c : Int) := by rw [IntKind.wrap_u64]; omega
  have hws : IntKind.u64.wrap ((s.size : Nat) : Int) = ((s.size : Nat) : Int) := by have := (tx_true ht).1; rw [IntKind.wrap_u64]; omega
  have f0 : ((a : Int) != 0) = false := by rw [bne_eq_false_iff_eq]; omega
  clear ha
  have HI : Hid (∀ W, Calls Tryd.prog 96 #[.string s] W fun e w' => e = .returned (.bool true) ∧ Below W.heap.size W w') := fun W => by have h := rText_any s W (by first | omega | exact hs | (have := (tx_true ht).1; omega)); rw [ht] at h; exact h
  obtain ⟨hs4, _⟩ := tx_true ht
  clear ht
  have hx := mkb1 w #[.int .u32 (c : Int), .string s, .bool false, .int .u64 (a : Int)] 42
  go_enter Tryd.func44, Tryd.ntmps44
  go_wp2_with fail
  generalize w.alloc (Obj.cells #[.int .u32 (c : Int), .string s, .bool false, .int .u64 (a : Int)] 42) = W0 at *
  refine (HI.out _).mono ?_
  rintro e W1 ⟨rfl, hb⟩
  have HY : Hid (Bx1 w W1 #[.int .u32 (c : Int), .string s, .bool false, .int .u64 (a : Int)] 42) := hx.later hb
  clear hx hb HI
  have k0 := blk_at HY.out.a 0
  have k1 := blk_at HY.out.a 1
  have k2 := blk_at HY.out.a 2
  have k3 := blk_at HY.out.a 3
  simp at k0 k1 k2 k3
  have KB : Hid (Below W1.heap.size W1 (W1.alloc (.cells #[.int .u64 (c : Int), .int .i64 4, .int .u64 (s.size : Int), .int .i64 2] TFd))) := below1 _ _
  have q0 := cell_later KB.out k0
  have q1 := cell_later KB.out k1
  have q2 := cell_later KB.out k2
  have q3 := cell_later KB.out k3
  obtain ⟨Wc, cp, hcv, hbc, hrc⟩ := conv_any s (W1.alloc (.cells #[.int .u64 (c : Int), .int .i64 4, .int .u64 (s.size : Int), .int .i64 2] TFd)) hs4
  rw [size1] at hcv hrc
  have HC : Hid (Below (W1.alloc (.cells #[.int .u64 (c : Int), .int .i64 4, .int .u64 (s.size : Int), .int .i64 2] TFd)).heap.size (W1.alloc (.cells #[.int .u64 (c : Int), .int .i64 4, .int .u64 (s.size : Int), .int .i64 2] TFd)) Wc ∧ BRow Wc (some ⟨W1.heap.size + 1, 0, none⟩) cp (sbytes s)) := ⟨hbc, hrc⟩
  clear hbc hrc
  go_wp2_with fail
  clear k0 q0 k1 q1 k2 q2 k3 q3
  clear hcv
  refine (layR (w := w) [(c, 4), (s.size, 2)] 2 _ rfl HY.out.bel rfl (by simp; omega) (by decide) HC.out.1 _ cp s.size (sbytes s) HC.out.2 (sbytes_length s) (by omega) (erL0 c s) (by simp [layF, erL0])).mono ?_
  rintro e Wz ⟨az, cz, mz, rfl, hmz, hrz, hbz⟩
  have HB2 : Hid (Below W1.heap.size W1 Wz) := hbz
  have HZ : Hid _ := hrz
  have HMZ : Hid ((erL0 c s).length = mz) := hmz
  clear hrz hmz hbz
  have k2 := cell_later HB2.out (show W1.cell? ⟨w.heap.size, 2, none⟩ = some (.bool false) from blk_at HY.out.a 2)
  go_wp2
  go_ret2
  exact ⟨_, _, mz, rfl, HMZ.out, HZ.out⟩
set_option maxHeartbeats 2000000 in
theorem rError_bad (c : Nat) (s : ByteArray) (b : Bool) (a : Nat) (w : World) (hs : s.size ≤ 9223372036854775807) (ht : tx s = false) :
    Calls Tryd.prog 44 #[.agg #[.int .u32 (c : Int), .string s, .bool b, .int .u64 (a : Int)]] w fun e w' => Pk w [] 81 e w' := by
  have HI : Hid (∀ W, Calls Tryd.prog 96 #[.string s] W fun e w' => e = .returned (.bool false) ∧ Below W.heap.size W w') := fun W => by have h := rText_any s W (by first | omega | exact hs | (have := (tx_true ht).1; omega)); rw [ht] at h; exact h
  clear ht
  have hx := mkb1 w #[.int .u32 (c : Int), .string s, .bool b, .int .u64 (a : Int)] 42
  go_enter Tryd.func44, Tryd.ntmps44
  go_wp2_with fail
  generalize w.alloc (Obj.cells #[.int .u32 (c : Int), .string s, .bool b, .int .u64 (a : Int)] 42) = W0 at *
  refine (HI.out _).mono ?_
  rintro e W1 ⟨rfl, hb⟩
  have HY : Hid (Bx1 w W1 #[.int .u32 (c : Int), .string s, .bool b, .int .u64 (a : Int)] 42) := hx.later hb
  clear hx hb HI
  go_wp2
  go_ret2
  exact pk_none HY.out.bel
set_option maxHeartbeats 2000000 in
theorem rError_at (c : Nat) (s : ByteArray) (a : Nat) (w : World) (hs : s.size ≤ 9223372036854775807) (ht : tx s = true) (ha : a ≠ 0) :
    Calls Tryd.prog 44 #[.agg #[.int .u32 (c : Int), .string s, .bool false, .int .u64 (a : Int)]] w fun e w' => Pk w [] 81 e w' := by
  have f0 : ((a : Int) != 0) = true := by rw [bne_iff_ne]; omega
  clear ha
  have HI : Hid (∀ W, Calls Tryd.prog 96 #[.string s] W fun e w' => e = .returned (.bool true) ∧ Below W.heap.size W w') := fun W => by have h := rText_any s W (by first | omega | exact hs | (have := (tx_true ht).1; omega)); rw [ht] at h; exact h
  obtain ⟨hs4, _⟩ := tx_true ht
  clear ht
  have hx := mkb1 w #[.int .u32 (c : Int), .string s, .bool false, .int .u64 (a : Int)] 42
  go_enter Tryd.func44, Tryd.ntmps44
  go_wp2_with fail
  generalize w.alloc (Obj.cells #[.int .u32 (c : Int), .string s, .bool false, .int .u64 (a : Int)] 42) = W0 at *
  refine (HI.out _).mono ?_
  rintro e W1 ⟨rfl, hb⟩
  have HY : Hid (Bx1 w W1 #[.int .u32 (c : Int), .string s, .bool false, .int .u64 (a : Int)] 42) := hx.later hb
  clear hx hb HI
  have k2 := blk_at HY.out.a 2
  have k3 := blk_at HY.out.a 3
  simp at k2 k3
  go_wp2
  go_ret2
  exact pk_none HY.out.bel
end Go.Proofs.YtjikibhhhchgeaaDoor
