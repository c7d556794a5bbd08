import Derived.Test.YtefgdhoapmikhaaDoorRpN
import Derived.Test.YtefgdhoapmikhaaDoorRtB
import Derived.Test.YtefgdhoapmikhaaDoorRtE
import Derived.Test.YtefgdhoapmikhaaDoorRqFa
import Derived.Test.YtefgdhoapmikhaaDoorRpE
namespace Go.Proofs.YtefgdhoapmikhaaDoor
open Go.RowKit
set_option linter.unusedVariables false
set_option linter.unusedSimpArgs false
set_option maxRecDepth 100000
set_option maxHeartbeats 2000000 in
theorem chunks_status (ix : Int) (st ex : Bool) (co : Option Addr) (cn cc : Nat) (fl ty ck off len : Nat) (d : Value) (cd : Nat) (pl : Bool) (at_ : Nat) (po : Option Addr) (pn pc : Nat) (lo : Option Addr) (ln lc : Nat) (w : World) (S : List Say) (hS : 0 < S.length) (hS2 : S.length ≤ 1048576) (hcd : cd = 0) (hty : ty = 7)
    (HRd : Hid (∀ W, Below w.heap.size w W → Calls Tryd.prog 72 #[.agg #[.int .i64 ix, .bool st, .bool ex, .slice co cn cc, .int .u16 (fl : Int), .int .u16 (ty : Int), .int .u64 (ck : Int), .int .u64 (off : Int), .int .u64 (len : Int), d, .int .u32 (cd : Int), .bool pl, .int .u64 (at_ : Int), .slice po pn pc, .slice lo ln lc]] W fun e w' => ∃ v L, e = .returned v ∧ Cks W w' v L ∧ L.map Ck.say = S ∧ Below W.heap.size W w')) :
    Calls Tryd.prog 41 #[.agg #[.int .i64 ix, .bool st, .bool ex, .slice co cn cc, .int .u16 (fl : Int), .int .u16 (ty : Int), .int .u64 (ck : Int), .int .u64 (off : Int), .int .u64 (len : Int), d, .int .u32 (cd : Int), .bool pl, .int .u64 (at_ : Int), .slice po pn pc, .slice lo ln lc]] w fun e w' => ∃ g cap L, e = .returned (.slice (some ⟨g, 0, none⟩) L.length cap) ∧ Cks w w' (.slice (some ⟨g, 0, none⟩) L.length cap) L ∧ L.map Ck.say = doneS S ∧ Below w.heap.size w w' := by
  have f1 : ((cd : Int) != 0) = false := by rw [bne_eq_false_iff_eq]; omega
  have f2 : ((ty : Int) == 0) = false := by rw [beq_eq_false_iff_ne]; omega
  have f3 : ((ty : Int) == 7) = true := by rw [beq_iff_eq]; omega
  clear hcd hty
  go_enter Tryd.func41, Tryd.ntmps41
  go_wp2_with fail
  have hx := mkb1 w #[.int .i64 ix, .bool st, .bool ex, .slice co cn cc, .int .u16 (fl : Int), .int .u16 (ty : Int), .int .u64 (ck : Int), .int .u64 (off : Int), .int .u64 (len : Int), d, .int .u32 (cd : Int), .bool pl, .int .u64 (at_ : Int), .slice po pn pc, .slice lo ln lc] 105
  generalize w.alloc (Obj.cells #[.int .i64 ix, .bool st, .bool ex, .slice co cn cc, .int .u16 (fl : Int), .int .u16 (ty : Int), .int .u64 (ck : Int), .int .u64 (off : Int), .int .u64 (len : Int), d, .int .u32 (cd : Int), .bool pl, .int .u64 (at_ : Int), .slice po pn pc, .slice lo ln lc] 105) = W0 at *
  refine (HRd.out _ hx.bel).mono ?_
  rintro e W1 ⟨v, L, rfl, hck, hsay, hbe⟩
  have hl : L.length = S.length := by rw [← hsay, List.length_map]
  have hck' : Cks w W1 v L := ⟨owns_monoK hck.own hx.bel.size, fun c hc => ⟨owns_mono (hck.dat c hc).1 hx.bel.size, (hck.dat c hc).2⟩⟩
  obtain ⟨g, cap, rfl, hg1, hg2, hg3, hg4, hg5, u, hg6⟩ := cks_form hck' (by omega)
  generalize hk : L.length = k at *
  have HK : Hid (L.length = k) := hk
  have HC : Hid (Cks w W1 (.slice (some ⟨g, 0, none⟩) k cap) L ∧ L.map Ck.say = S ∧ Below w.heap.size w W1) := ⟨hck', hsay, (hx.later hbe).bel⟩
  clear hck hck' hsay hbe hx HRd hk
  have hk0 : 0 < k := by omega
  have hk1 : k ≤ 1048576 := by omega
  have a1 : IntKind.i64.wrap ((k : Int) - 1) = ((k - 1 : Nat) : Int) := by rw [IntKind.wrap_i64]; omega
  have a2 : ((k : Int) - 1) = ((k - 1 : Nat) : Int) := by omega
  clear hl hS hS2
  go_wp2
  go_ret
  refine ⟨g, cap, doneK L, by rw [doneK_len, HK.out]; rfl, ?_, by rw [doneK_say, HC.out.2.1], HC.out.2.2.setCell hg1 _⟩
  rw [doneK_len, HK.out]
  exact HC.out.1.done HK.out hk0
/-- what is answered to a status: of each context its list -/
def zS (one ex : Bool) (ck eo : Nat) (L : List Ls) (U : List Nat) : List Say := List.zipWith (stS one ex ck eo) L U
theorem zS_len (one ex : Bool) (ck eo : Nat) {L : List Ls} {U : List Nat} {n : Nat} (h1 : L.length = n) (h2 : U.length = n) : (zS one ex ck eo L U).length = n := by simp [zS, h1, h2]
theorem zS_at (one ex : Bool) (ck eo : Nat) {L : List Ls} {U : List Nat} (k : Nat) (x : Ls) (u : Nat) (h1 : L[k]? = some x) (h2 : U[k]? = some u) : (zS one ex ck eo L U)[k]? = some (stS one ex ck eo x u) := by
  simp [zS, List.getElem?_zipWith, h1, h2]
theorem run_nr (ex : Bool) : ∀ (l : List Rn) (left : Nat), runB left ex l = true → nrP ex l
  | [], _, _ => fun x hx => by cases hx
  | y :: t, left, h => by
    simp only [runB, rnB, Bool.and_eq_true, Bool.or_eq_true, decide_eq_true_eq] at h
    obtain ⟨⟨_, _, h3⟩, h4⟩ := h
    intro x hx
    rcases List.mem_cons.1 hx with rfl | hx
    · exact h3
    · exact run_nr ex t _ h4 x hx
theorem runs_nr {len : Nat} {ex : Bool} {l : List Rn} (h : runsB len ex l = true) : 0 < l.length ∧ nrP ex l := by
  simp only [runsB, Bool.and_eq_true, decide_eq_true_eq] at h
  exact ⟨h.1, run_nr ex l _ h.2⟩
theorem fit_of {ex : Bool} {cn off len : Nat} {L : List Ls} : fitB12 true ex cn 7 off len 0 false 0 [] L = (decide (cn ≠ 0) && (decide (L.length = cn) && listsB len ex L)) := by simp [fitB12]
theorem doneS_len : ∀ (S : List Say), (doneS S).length = S.length
  | [] => rfl
  | [x] => rfl
  | x :: y :: t => by simp only [doneS, List.length_cons, doneS_len (y :: t)]
theorem doneS_mem : ∀ (S : List Say) (x : Say), x ∈ doneS S → ∃ y ∈ S, (x.1 = y.1 ∨ x.1 = 1) ∧ x.2 = y.2
  | [], x, h => by cases h
  | [y], x, h => by
    simp only [doneS, List.mem_singleton] at h
    exact ⟨y, by simp, by rw [h]; exact .inr rfl, by rw [h]⟩
  | y :: z :: t, x, h => by
    simp only [doneS, List.mem_cons] at h
    rcases h with h | h
    · exact ⟨y, by simp, by rw [h]; exact .inl rfl, by rw [h]⟩
    · obtain ⟨q, hq, h1⟩ := doneS_mem (z :: t) x (by simpa using h)
      exact ⟨q, List.mem_cons_of_mem _ hq, h1⟩
theorem doneS_at : ∀ (S : List Say) (k : Nat) (x : Say), S[k]? = some x → (doneS S)[k]? = some (if k + 1 = S.length then (1, x.2) else x)
  | [], k, x, h => by simp at h
  | [y], k, x, h => by
    rcases k with _ | k
    · simp at h; subst h; simp [doneS]
    · simp at h
  | y :: z :: t, k, x, h => by
    rcases k with _ | k
    · simp at h; subst h; simp [doneS]
    · simp only [List.getElem?_cons_succ] at h
      have := doneS_at (z :: t) k x h
      simp only [doneS, List.getElem?_cons_succ, this, List.length_cons]
      congr 1
      by_cases e : k + 1 = t.length + 1
      · rw [if_pos e, if_pos (by omega)]
      · rw [if_neg e, if_neg (by omega)]
/-- all runs of all lists -/
def tot (L : List Ls) : Nat := (L.map (fun x => x.l.length)).sum
theorem tot_mem {L : List Ls} {x : Ls} (h : x ∈ L) : x.l.length ≤ tot L := by
  induction L with
  | nil => cases h
  | cons y t ih =>
    simp only [tot, List.map_cons, List.sum_cons]
    rcases List.mem_cons.1 h with rfl | h
    · omega
    · have := ih h; simp only [tot] at this; omega
theorem tot_le : ∀ (L : List Ls), (∀ x ∈ L, x.l.length ≤ 1048576) → tot L ≤ L.length * 1048576
  | [], _ => by simp [tot]
  | x :: L, h => by
    have h1 := tot_le L (fun y hy => h y (List.mem_cons_of_mem _ hy))
    have h2 := h x (List.mem_cons_self ..)
    simp only [tot, List.map_cons, List.sum_cons, List.length_cons] at *
    rw [Nat.add_mul]; omega
theorem stL_small (wide : Bool) (cx : Nat) (one : Bool) (l : List Rn) : (stL wide cx (tell1 one l)).length ≤ 8 + l.length * 16 := by
  have h1 := stH_le wide cx (tell1 one l).length
  have h2 := rnLs_le wide (tell1 one l)
  have h3 : (tell1 one l).length ≤ l.length := by
    unfold tell1
    split
    · rw [List.length_take]; omega
    · omega
  have h4 := Nat.mul_le_mul_right 16 h3
  rw [stL, List.length_append]; omega
theorem enc_le (ex one : Bool) (ck eo : Nat) : ∀ (L : List Ls) (U : List Nat), (encS ex (zS one ex ck eo L U)).length ≤ L.length * 40 + tot L * 16
  | [], _ => by simp [zS, encS]
  | x :: L, [] => by simp [zS, encS]
  | x :: L, u :: U => by
    have h1 := enc_le ex one ck eo L U
    have h2 := enS_len ex (stS one ex ck eo x u)
    have h3 := stL_small ex u one x.l
    simp only [zS, List.zipWith_cons_cons, encS, List.flatMap_cons, List.length_append, tot, List.map_cons, List.sum_cons, List.length_cons] at *
    simp only [stS] at h2 ⊢
    rw [Nat.add_mul, Nat.add_mul]
    omega
theorem enc_done_le (ex : Bool) : ∀ (S : List Say), (encS ex (doneS S)).length = (encS ex S).length
  | [] => rfl
  | [x] => by simp only [doneS, encS, List.flatMap_cons, List.flatMap_nil, List.append_nil]; unfold enS; split <;> simp [cL64, cL, bigTo_length]
  | x :: y :: t => by
    have := enc_done_le ex (y :: t)
    simp only [doneS, encS, List.flatMap_cons, List.length_append] at this ⊢
    omega
theorem zS_mem {one ex : Bool} {ck eo : Nat} : ∀ {L : List Ls} {U : List Nat} {z : Say}, z ∈ zS one ex ck eo L U → ∃ x ∈ L, ∃ u ∈ U, z = stS one ex ck eo x u
  | [], _, z, h => by simp [zS] at h
  | x :: L, [], z, h => by simp [zS] at h
  | x :: L, u :: U, z, h => by
    simp only [zS, List.zipWith_cons_cons, List.mem_cons] at h
    rcases h with h | h
    · exact ⟨x, by simp, u, by simp, h⟩
    · obtain ⟨x', hx, u', hu, e⟩ := zS_mem (L := L) (U := U) h
      exact ⟨x', List.mem_cons_of_mem _ hx, u', List.mem_cons_of_mem _ hu, e⟩
theorem done_ok {one ex : Bool} {ck eo : Nat} {L : List Ls} {U : List Nat} (hck : ck < 18446744073709551616) (heo : eo < 18446744073709551616) (he0 : ex = false → eo = 0) (hl : ∀ x ∈ L, x.l.length ≤ 1048576) : ∀ z ∈ doneS (zS one ex ck eo L U), okS z ∧ z.2.2.2.2.length ≤ 4294967295 ∧ (ex = false → z.2.2.2.1 = 0) := fun z hz => by
  obtain ⟨y, hy, h1, h2⟩ := doneS_mem _ z hz
  obtain ⟨x, hx, u, hu, rfl⟩ := zS_mem hy
  have h3 := stL_small ex u one x.l
  have h4 := hl x hx
  have h5 : z.1 < 65536 := by
    rcases h1 with e | e
    · rw [e]; simp [stS]
    · rw [e]; decide
  rw [okS, h2]
  simp only [stS]
  refine ⟨⟨h5, by split <;> omega, hck, heo, by omega⟩, by omega, he0⟩
set_option maxHeartbeats 1000000 in
theorem bytes_status (ex one : Bool) (co : Option Addr) (cn cc : Nat) (fl ck off len : Nat) (d : Value) (lo : Option Addr) (ln lc : Nat) (w : World) (L : List Ls) (U : List Nat) (hu : URow w co U) (hL : LRow w lo L) (HC : Hid (U.length = cn)) (HL : Hid (L.length = ln)) (hck : ck < 18446744073709551616) (hoff : off < 18446744073709551616) (hlen : len < 18446744073709551616) (hfl : bits .and .u16 (fl : Int) 8 = if one = true then 8 else 0) (eo : Nat) (heo : eo = if ex = true then off else 0) (ht : tot L ≤ 1099511627776) (fit : Bool) (hfit : fit = (decide (cn ≠ 0) && (decide (L.length = cn) && listsB len ex L))) :
    Calls Tryd.prog 22 #[.agg #[.int .i64 0, .bool true, .bool ex, .slice co cn cc], .agg #[.int .u16 (fl : Int), .int .u16 7, .int .u64 (ck : Int), .int .u64 (off : Int), .int .u64 (len : Int), d], .agg #[.int .u32 0, .bool false, .int .u64 0, .slice none 0 0, .slice lo ln lc]] w fun e w' => ∃ ao N cap ev, e = .returned (.tuple #[.slice ao N cap, .int .i64 ev]) ∧ Below w.heap.size w w' ∧ (fit = true → ev = 0 ∧ N = (encS ex (doneS (zS one ex ck eo L U))).length ∧ Row w w' ao cap (encS ex (doneS (zS one ex ck eo L U)))) ∧ (fit = false → ev = 120 ∧ N = 0) := by
  have hF : ∀ W, Below w.heap.size w W → Calls Tryd.prog 10 #[.agg #[.int .i64 0, .bool true, .bool ex, .slice co cn cc], .agg #[.int .u16 (fl : Int), .int .u16 7, .int .u64 (ck : Int), .int .u64 (off : Int), .int .u64 (len : Int), d], .agg #[.int .u32 0, .bool false, .int .u64 0, .slice none 0 0, .slice lo ln lc]] W fun e w' => e = .returned (.int .i64 (eFit fit)) ∧ Below W.heap.size W w' := fun W hb => by
    have h := Fits_any 0 true ex co cn cc fl 7 ck off len d 0 false 0 none 0 [] lo lc L W (by rw [← HC.out]; exact hu.len) (by decide) ⟨by simp, by simp, fun h => absurd rfl h⟩ (hL.later hb) hoff hlen (by decide) (by decide)
    rw [HL.out, fit_of, ← hfit] at h
    exact h
  cases hft : fit with
  | false =>
    rw [hft] at hF
    refine (bytes_no 0 true ex co cn cc fl 7 ck off len d 0 false 0 none 0 0 lo ln lc w hF).mono ?_
    rintro e w' ⟨rfl, hb⟩
    exact ⟨none, 0, 0, 120, rfl, hb, fun h => (by cases h), fun _ => ⟨rfl, rfl⟩⟩
  | true =>
    rw [hft] at hF
    rw [hft] at hfit
    have h0 := hfit.symm
    simp only [Bool.and_eq_true, decide_eq_true_eq] at h0
    obtain ⟨hc0, hlc, hls⟩ := h0
    have hln : ln = cn := by rw [← HL.out]; exact hlc
    subst hln
    have hUn : U.length = ln := HC.out
    have hLn : L.length = ln := HL.out
    obtain ⟨ub, uo, rfl, _⟩ := hu.at_ (fun h0 => by rw [h0] at hUn; simp at hUn; omega)
    obtain ⟨lb, lo', rfl, _⟩ := hL.at_ (fun h0 => by rw [h0] at hLn; simp at hLn; omega)
    have hn : ln ≤ 1048576 := by rw [← hUn]; exact hu.len
    have hzl := zS_len one ex ck eo hLn hUn
    have heoI : (eo : Int) = if ex = true then (off : Int) else 0 := by rw [heo]; split <;> rfl
    have hall : ∀ x ∈ L, 0 < x.l.length ∧ nrP ex x.l := fun x hx => runs_nr (List.all_eq_true.1 hls x hx)
    have hchunks : ∀ W, Below w.heap.size w W → Calls Tryd.prog 41 #[.agg #[.int .i64 0, .bool true, .bool ex, .slice (some ⟨ub, uo, none⟩) ln cc, .int .u16 (fl : Int), .int .u16 7, .int .u64 (ck : Int), .int .u64 (off : Int), .int .u64 (len : Int), d, .int .u32 0, .bool false, .int .u64 0, .slice none 0 0, .slice (some ⟨lb, lo', none⟩) ln lc]] W fun e w' => ∃ g cap K, e = .returned (.slice (some ⟨g, 0, none⟩) K.length cap) ∧ Cks W w' (.slice (some ⟨g, 0, none⟩) K.length cap) K ∧ K.map Ck.say = doneS (zS one ex ck eo L U) ∧ Below W.heap.size W w' := fun W hb =>
      chunks_status 0 true ex _ ln cc fl 7 ck off len d 0 false 0 none 0 0 _ ln lc W (zS one ex ck eo L U) (by rw [hzl]; omega) (by rw [hzl]; exact hn) rfl rfl (fun W' hb' => status_some 0 true ex ub uo cc fl 7 ck off len d 0 false 0 none 0 0 lb lo' ln lc W' one L U _ ((hL.later hb).later hb') ((hu.later hb).later hb') hLn hUn hfl eo heoI hall ⟨hzl, fun k x u h1 h2 => zS_at one ex ck eo k x u h1 h2⟩)
    have heb : eo < 18446744073709551616 := by rw [heo]; split <;> omega
    have hok := done_ok (one := one) (ex := ex) (L := L) (U := U) hck heb (fun e => by rw [heo, e]; rfl) (fun x hx => (hL.row x hx).1.len)
    have htot : (encS ex (doneS (zS one ex ck eo L U))).length ≤ 70368744177664 := by
      rw [enc_done_le]
      have := enc_le ex one ck eo L U
      omega
    have hsb : ∀ W, Below w.heap.size w W → _ := fun W hb => strbytes 0 true ex _ ln cc fl 7 ck off len d 0 false 0 none 0 0 _ ln lc W (doneS (zS one ex ck eo L U)) (by rw [doneS_len, hzl]; exact hn) (fun z hz => (hok z hz).1) htot (fun W' hb' => hchunks W' (hb.trans (hb'.mono hb.size)))
    refine (bytes_str 0 true ex _ ln cc fl 7 ck off len d 0 false 0 none 0 0 _ ln lc w (encS ex (doneS (zS one ex ck eo L U))) hF (by decide) (by simp [strB]) hsb).mono ?_
    rintro e w' ⟨ao, cap, rfl, hr⟩
    exact ⟨ao, _, cap, 0, rfl, hr.bel, fun _ => ⟨rfl, rfl, hr⟩, fun h => (by cases h)⟩
end Go.Proofs.YtefgdhoapmikhaaDoor
