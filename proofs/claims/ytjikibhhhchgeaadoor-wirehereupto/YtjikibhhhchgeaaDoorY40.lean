import Derived.Test.YtjikibhhhchgeaaDoorY35
import Derived.Test.YtjikibhhhchgeaaDoorY36
import Derived.Test.YtjikibhhhchgeaaDoorY31
import Derived.Test.YtjikibhhhchgeaaDoorY37
import Derived.Test.YtjikibhhhchgeaaDoorY38
import Derived.Test.YtjikibhhhchgeaaDoorY39
namespace Go.Proofs.YtjikibhhhchgeaaDoor
open Go.RowKit
set_option linter.unusedVariables false
set_option linter.unusedSimpArgs false
set_option maxRecDepth 100000
theorem u16s_nil (w : World) (a : Option Addr) : U16s w a [] := ⟨by simp, fun h => absurd rfl h⟩
theorem strs_nil (w : World) (a : Option Addr) : Strs w a [] := ⟨by simp, fun h => absurd rfl h⟩
theorem runs_nil (w : World) (a : Option Addr) : Runs w a [] := ⟨by simp, fun h => absurd rfl h⟩
theorem em_nil {s : ByteArray} (h : s = ByteArray.empty) : s = ⟨#[]⟩ := h.trans rfl
theorem th_info (k sz fl : Nat) (s : ByteArray) (mn pf mx : Nat) (d : List Nat) (hk : k < 65536) (hsz : sz < 18446744073709551616) (hfl : fl < 65536) (hmn : mn < 4294967296) (hpf : pf < 4294967296) (hmx : mx < 4294967296)
    (ao : Option Addr) (cap n : Nat) (w : World) (h : BRow w ao cap (rInfoC k sz fl s mn pf mx d).1) (hn : (rInfoC k sz fl s mn pf mx d).1.length = n) (hT : Tabs w) :
    Calls Tryd.prog 11 #[.slice ao n cap] w fun e w' => ∃ (k' sz' fl' : Nat) (s' : ByteArray) (mn' pf' mx' : Nat) (da : Option Addr) (dn dc : Nat) (d' : List Nat) (er : Nat), e = .returned (.tuple #[.agg #[.int .u16 (k' : Int), .int .u64 (sz' : Int), .int .u16 (fl' : Int), .string s', .int .u32 (mn' : Int), .int .u32 (pf' : Int), .int .u32 (mx' : Int), .slice da dn dc], .int .i64 (er : Int)]) ∧ d'.length = dn ∧ BRow w' da dc d' ∧ Below w.heap.size w w' ∧ ((rInfoC k sz fl s mn pf mx d).2 = 0 → er = 0 ∧ k' = k ∧ sz' = sz ∧ fl' = fl ∧ s' = s ∧ mn' = mn ∧ pf' = pf ∧ mx' = mx ∧ d' = d) := by
  by_cases hb : ifB k sz fl s mn pf mx d.length = true
  · have hc : rInfoC k sz fl s mn pf mx d = (inL k sz fl s mn pf mx d, 0) := by unfold rInfoC; rw [if_pos hb]
    rw [hc] at h hn ⊢
    simp only at h hn ⊢
    by_cases k0 : k = 0
    · subst k0
      simp [ifB, emB, blB] at hb
      obtain ⟨b1, ⟨b2, b3, b4⟩, b5⟩ := hb
      have hL : inL 0 sz fl s mn pf mx d = bigTo 0 2 2 ++ (bigTo sz 8 8 ++ (bigTo fl 2 2 ++ [])) := by simp [inL]
      obtain ⟨q1, q2, q3⟩ := rd_at (l := inL 0 sz fl s mn pf mx d) (pre := []) (tl := bigTo sz 8 8 ++ (bigTo fl 2 2 ++ [])) 0 2 0 hL rfl (by omega)
      obtain ⟨p1, p2, p3⟩ := rd_at (l := inL 0 sz fl s mn pf mx d) (pre := bigTo 0 2 2) (tl := bigTo fl 2 2 ++ []) sz 8 (0 + 2) hL (by simp [bigTo_length]) (by omega)
      obtain ⟨r1, r2, r3⟩ := rd_at (l := inL 0 sz fl s mn pf mx d) (pre := bigTo 0 2 2 ++ bigTo sz 8 8) (tl := []) fl 2 (0 + 2 + 8) (by rw [hL]; simp) (by simp [bigTo_length]) (by omega)
      refine (unpackInfo_0ok ao cap n _ w h hn 0 (0 + 2) 0 ⟨q2, q3, by rw [q1]; rfl⟩ sz (0 + 2 + 8) 0 ⟨p2, p3, by rw [p1]; rfl⟩ fl (0 + 2 + 8 + 2) 0 ⟨r2, r3, by rw [r1]; rfl⟩ rfl (by rw [hL]; simp [bigTo_length, ndE])).mono ?_
      rintro e w' ⟨rfl, hb'⟩
      refine ⟨0, sz, fl, ⟨#[]⟩, 0, 0, 0, none, 0, 0, [], 0, rfl, rfl, brow_nil _, hb', fun _ => ⟨rfl, rfl, rfl, rfl, ?_, b2.symm, b3.symm, b4.symm, b5.symm⟩⟩
      exact (em_nil b1).symm
    by_cases k12 : k = 1 ∨ k = 2
    · simp [ifB, k0, k12, exB, blB] at hb
      obtain ⟨⟨b1, b2⟩, b3, ⟨b4, b5, b6⟩, b7⟩ := hb
      have hL : inL k sz fl s mn pf mx d = bigTo k 2 2 ++ (sbytes s ++ []) := by simp [inL, k0, k12]
      obtain ⟨q1, q2, q3⟩ := rd_at (l := inL k sz fl s mn pf mx d) (pre := []) (tl := sbytes s ++ []) k 2 0 hL rfl (by omega)
      obtain ⟨p1, p2, p3⟩ := rr_at (l := inL k sz fl s mn pf mx d) (pre := bigTo k 2 2) (m := sbytes s) (tl := []) s.size (0 + 2) hL (by simp [bigTo_length]) (sbytes_length s)
      have hln : (inL k sz fl s mn pf mx d).length = 2 + s.size := by rw [hL]; simp [bigTo_length, sbytes_length]
      rcases k12 with e1 | e2
      · refine (unpackInfo_1ok ao cap n _ w h hn hT k (0 + 2) 0 s.size (0 + 2 + s.size) 0 ⟨q2, q3, by rw [q1]; rfl⟩ (by omega) s ⟨by rw [p2, bstr_sbytes], p3, by rw [b3, p1]; rfl⟩ k0 e1 (by rw [hln]; simp [ndE])).mono ?_
        rintro e w' ⟨rfl, hb'⟩
        exact ⟨k, 0, 0, s, 0, 0, 0, none, 0, 0, [], 0, rfl, rfl, brow_nil _, hb', fun _ => ⟨rfl, rfl, b1.symm, b2.symm, rfl, b4.symm, b5.symm, b6.symm, b7.symm⟩⟩
      · refine (unpackInfo_2ok ao cap n _ w h hn hT k (0 + 2) 0 s.size (0 + 2 + s.size) 0 ⟨q2, q3, by rw [q1]; rfl⟩ (by omega) s ⟨by rw [p2, bstr_sbytes], p3, by rw [b3, p1]; rfl⟩ k0 (by omega) e2 (by rw [hln]; simp [ndE])).mono ?_
        rintro e w' ⟨rfl, hb'⟩
        exact ⟨k, 0, 0, s, 0, 0, 0, none, 0, 0, [], 0, rfl, rfl, brow_nil _, hb', fun _ => ⟨rfl, rfl, b1.symm, b2.symm, rfl, b4.symm, b5.symm, b6.symm, b7.symm⟩⟩
    by_cases k3 : k = 3
    · subst k3
      simp [ifB, exB, emB] at hb
      obtain ⟨⟨b1, b2⟩, b3, b4⟩ := hb
      have hL : inL 3 sz fl s mn pf mx d = bigTo 3 2 2 ++ (bigTo mn 4 4 ++ (bigTo pf 4 4 ++ (bigTo mx 4 4 ++ []))) := by simp [inL]
      obtain ⟨q1, q2, q3⟩ := rd_at (l := inL 3 sz fl s mn pf mx d) (pre := []) (tl := bigTo mn 4 4 ++ (bigTo pf 4 4 ++ (bigTo mx 4 4 ++ []))) 3 2 0 hL rfl (by omega)
      obtain ⟨p1, p2, p3⟩ := rd_at (l := inL 3 sz fl s mn pf mx d) (pre := bigTo 3 2 2) (tl := bigTo pf 4 4 ++ (bigTo mx 4 4 ++ [])) mn 4 (0 + 2) hL (by simp [bigTo_length]) (by omega)
      obtain ⟨r1, r2, r3⟩ := rd_at (l := inL 3 sz fl s mn pf mx d) (pre := bigTo 3 2 2 ++ bigTo mn 4 4) (tl := bigTo mx 4 4 ++ []) pf 4 (0 + 2 + 4) (by rw [hL]; simp) (by simp [bigTo_length]) (by omega)
      obtain ⟨t1, t2, t3⟩ := rd_at (l := inL 3 sz fl s mn pf mx d) (pre := bigTo 3 2 2 ++ bigTo mn 4 4 ++ bigTo pf 4 4) (tl := []) mx 4 (0 + 2 + 4 + 4) (by rw [hL]; simp) (by simp [bigTo_length]) (by omega)
      refine (unpackInfo_3ok ao cap n _ w h hn 3 (0 + 2) 0 ⟨q2, q3, by rw [q1]; rfl⟩ mn (0 + 2 + 4) 0 ⟨p2, p3, by rw [p1]; rfl⟩ pf (0 + 2 + 4 + 4) 0 ⟨r2, r3, by rw [r1]; rfl⟩ mx (0 + 2 + 4 + 4 + 4) 0 ⟨t2, t3, by rw [t1]; rfl⟩ (by omega) (by omega) (by omega) rfl (by rw [hL]; simp [bigTo_length, ndE])).mono ?_
      rintro e w' ⟨rfl, hb'⟩
      exact ⟨3, 0, 0, ⟨#[]⟩, mn, pf, mx, none, 0, 0, [], 0, rfl, rfl, brow_nil _, hb', fun _ => ⟨rfl, rfl, b1.symm, b2.symm, (em_nil b3).symm, rfl, rfl, rfl, b4.symm⟩⟩
    · simp [ifB, k0, k12, k3, exB, emB, blB] at hb
      obtain ⟨⟨b1, b2⟩, b3, b4, b5, b6⟩ := hb
      have hL : inL k sz fl s mn pf mx d = bigTo k 2 2 ++ (d ++ []) := by simp [inL, k0, k12, k3]
      obtain ⟨q1, q2, q3⟩ := rd_at (l := inL k sz fl s mn pf mx d) (pre := []) (tl := d ++ []) k 2 0 hL rfl (by omega)
      obtain ⟨p1, p2, p3⟩ := rr_at (l := inL k sz fl s mn pf mx d) (pre := bigTo k 2 2) (m := d) (tl := []) d.length (0 + 2) hL (by simp [bigTo_length]) rfl
      have hln : (inL k sz fl s mn pf mx d).length = 2 + d.length := by rw [hL]; simp [bigTo_length]
      have hdl : d.length ≤ 140737488351232 := by have := h.len; omega
      refine (unpackInfo_ook ao cap n _ w h hn hT k (0 + 2) 0 d.length (0 + 2 + d.length) 0 ⟨q2, q3, by rw [q1]; rfl⟩ (by omega) d ⟨p2, p3, by rw [p1]; rfl⟩ k0 (by omega) (by omega) k3 (by rw [hln]; simp [ndE])).mono ?_
      rintro e w' ⟨a7, c7, n7, rfl, hl7, hr⟩
      exact ⟨k, 0, 0, ⟨#[]⟩, 0, 0, 0, a7, n7, c7, d, 0, rfl, hl7, hr.brow hdl, hr.bel, fun _ => ⟨rfl, rfl, b1.symm, b2.symm, (em_nil b3).symm, b4.symm, b5.symm, b6.symm, rfl⟩⟩
  · have hc : rInfoC k sz fl s mn pf mx d = ([], 81) := by unfold rInfoC; rw [if_neg hb]
    rw [hc] at h hn ⊢
    refine (unpackInfo_0no ao cap n _ w h hn 0 0 81 (by decide) 0 0 81 (by decide) 0 0 81 (by decide) rfl (by decide)).mono ?_
    rintro e w' ⟨rfl, hb'⟩
    exact ⟨0, 0, 0, ⟨#[]⟩, 0, 0, 0, none, 0, 0, [], 81, rfl, rfl, brow_nil _, hb', fun h => by cases h⟩
theorem th_ask (s : ByteArray) (ks : List Nat) (hks : ∀ x ∈ ks, x < 65536) (ao : Option Addr) (cap n : Nat) (w : World) (h : BRow w ao cap (rAskC s ks).1) (hn : (rAskC s ks).1.length = n) (hT : Tabs w) :
    Calls Tryd.prog 14 #[.slice ao n cap] w fun e w' => ∃ (s' : ByteArray) (ia : Option Addr) (m ic : Nat) (ks' : List Nat) (er : Nat), e = .returned (.tuple #[.agg #[.string s', .slice ia m ic], .int .i64 (er : Int)]) ∧ ks'.length = m ∧ U16s w' ia ks' ∧ Below w.heap.size w w' ∧ ((rAskC s ks).2 = 0 → er = 0 ∧ s' = s ∧ ks' = ks) := by
  by_cases hb : tx s = true ∧ ks.length ≤ 64
  · have hc : rAskC s ks = (irL s ks, 0) := by unfold rAskC; rw [if_pos hb.1, if_pos hb.2]
    rw [hc] at h hn ⊢
    obtain ⟨e1, e2, e3, e4⟩ := ir_at s ks hb.1 hks hb.2
    have hz := unpackAsk_ok ao cap n _ w h hn hT e1
    rw [e2, e3, e4] at hz
    refine hz.mono ?_
    rintro e w' ⟨ia, ic, rfl, hu, hb'⟩
    exact ⟨s, ia, ks.length, ic, ks, 0, rfl, rfl, hu, hb', fun _ => ⟨rfl, rfl, rfl⟩⟩
  · have hc : (rAskC s ks).1 = [] ∧ (rAskC s ks).2 ≠ 0 := by
      unfold rAskC; split
      · split
        · rename_i h1 h2; exact absurd ⟨h1, h2⟩ hb
        · exact ⟨rfl, by decide⟩
      · exact ⟨rfl, by decide⟩
    rw [hc.1] at h hn
    refine (unpackAsk_no ao cap n _ w h hn hT 81 (by decide) (by decide)).mono ?_
    rintro e w' ⟨rfl, hb'⟩
    exact ⟨⟨#[]⟩, none, 0, 0, [], 81, rfl, rfl, u16s_nil _ _, hb', fun h => absurd h hc.2⟩
theorem th_metas (s : ByteArray) (qs : List ByteArray) (ao : Option Addr) (cap n : Nat) (w : World) (h : BRow w ao cap (rMetasC s qs).1) (hn : (rMetasC s qs).1.length = n) (hT : Tabs w) :
    Calls Tryd.prog 16 #[.slice ao n cap] w fun e w' => ∃ (s' : ByteArray) (ia : Option Addr) (m ic : Nat) (qs' : List ByteArray) (er : Nat), e = .returned (.tuple #[.agg #[.string s', .slice ia m ic], .int .i64 (er : Int)]) ∧ qs'.length = m ∧ Strs w' ia qs' ∧ Below w.heap.size w w' ∧ ((rMetasC s qs).2 = 0 → er = 0 ∧ s' = s ∧ qs' = qs) := by
  by_cases hb : tx s = true ∧ txs qs = true ∧ qs.length ≤ 16
  · have hc : rMetasC s qs = (mqL s qs, 0) := by unfold rMetasC; rw [if_pos hb.1, if_pos hb.2.1, if_pos hb.2.2]
    rw [hc] at h hn ⊢
    obtain ⟨e1, e2, e3, e4⟩ := mq_at s qs hb.1 hb.2.1 hb.2.2
    have hz := unpackMetas_ok ao cap n _ w h hn hT e1
    rw [e2, e3, e4] at hz
    refine hz.mono ?_
    rintro e w' ⟨ia, ic, rfl, hu, hb'⟩
    exact ⟨s, ia, qs.length, ic, qs, 0, rfl, rfl, hu, hb', fun _ => ⟨rfl, rfl, rfl⟩⟩
  · have hc : (rMetasC s qs).1 = [] ∧ (rMetasC s qs).2 ≠ 0 := by
      unfold rMetasC; split
      · split
        · split
          · rename_i h1 h2 h3; exact absurd ⟨h1, h2, h3⟩ hb
          · exact ⟨rfl, by decide⟩
        · exact ⟨rfl, by decide⟩
      · exact ⟨rfl, by decide⟩
    rw [hc.1] at h hn
    refine (unpackMetas_no ao cap n _ w h hn hT 81 (by decide) (by decide)).mono ?_
    rintro e w' ⟨rfl, hb'⟩
    exact ⟨⟨#[]⟩, none, 0, 0, [], 81, rfl, rfl, strs_nil _ _, hb', fun h => absurd h hc.2⟩
theorem th_meta (c : Nat) (s : ByteArray) (hc4 : c < 4294967296) (ao : Option Addr) (cap n : Nat) (w : World) (h : BRow w ao cap (rMetaC c s).1) (hn : (rMetaC c s).1.length = n) (hT : Tabs w) :
    Calls Tryd.prog 18 #[.slice ao n cap] w fun e w' => ∃ (c' : Nat) (s' : ByteArray) (er : Nat), e = .returned (.tuple #[.agg #[.int .u32 (c' : Int), .string s'], .int .i64 (er : Int)]) ∧ Below w.heap.size w w' ∧ ((rMetaC c s).2 = 0 → er = 0 ∧ c' = c ∧ s' = s) := by
  by_cases hb : tx s = true
  · have hc : rMetaC c s = (meL c s, 0) := by unfold rMetaC; rw [if_pos hb]
    rw [hc] at h hn ⊢
    obtain ⟨e1, e2, e3⟩ := mt_at c s hc4 hb
    have hz := unpackMeta_ok ao cap n _ w h hn hT e1
    rw [e2, e3] at hz
    refine hz.mono ?_
    rintro e w' ⟨rfl, hb'⟩
    exact ⟨c, s, 0, rfl, hb', fun _ => ⟨rfl, rfl, rfl⟩⟩
  · have hc : rMetaC c s = ([], 81) := by unfold rMetaC; rw [if_neg hb]
    rw [hc] at h hn ⊢
    refine (unpackMeta_no ao cap n _ w h hn hT (by decide)).mono ?_
    rintro e w' ⟨rfl, hb'⟩
    exact ⟨0, ⟨#[]⟩, 81, rfl, hb', fun h => by cases h⟩
theorem th_server (s : ByteArray) (m : List Nat) (ao : Option Addr) (cap n : Nat) (w : World) (h : BRow w ao cap (rServerC s m).1) (hn : (rServerC s m).1.length = n) (hT : Tabs w) :
    Calls Tryd.prog 19 #[.slice ao n cap] w fun e w' => ∃ (s' : ByteArray) (da : Option Addr) (dn dc : Nat) (m' : List Nat) (er : Nat), e = .returned (.tuple #[.agg #[.string s', .slice da dn dc], .int .i64 (er : Int)]) ∧ m'.length = dn ∧ BRow w' da dc m' ∧ Below w.heap.size w w' ∧ ((rServerC s m).2 = 0 → er = 0 ∧ s' = s ∧ m' = m) := by
  by_cases hb : tx s = true
  · have hc : rServerC s m = (seL s m, 0) := by unfold rServerC; rw [if_pos hb]
    rw [hc] at h hn ⊢
    obtain ⟨e1, e2, e3⟩ := sv_at s m hb
    have hz := unpackServer_ok ao cap n _ w h hn hT e1
    rw [e2, e3] at hz
    have hdl : m.length ≤ 140737488351232 := by have := h.len; simp [seL] at this; omega
    refine hz.mono ?_
    rintro e w' ⟨da, dc, dn, rfl, hl, hr⟩
    exact ⟨s, da, dn, dc, m, 0, rfl, hl, hr.brow hdl, hr.bel, fun _ => ⟨rfl, rfl, rfl⟩⟩
  · have hc : rServerC s m = ([], 81) := by unfold rServerC; rw [if_neg hb]
    rw [hc] at h hn ⊢
    refine (unpackServer_no ao cap n _ w h hn hT (by decide)).mono ?_
    rintro e w' ⟨rfl, hb'⟩
    exact ⟨⟨#[]⟩, none, 0, 0, [], 81, rfl, rfl, brow_nil _, hb', fun h => by cases h⟩
theorem sto_nil (wide : Bool) : Sto [] wide 0 := ⟨fun j hj => by omega, .inr (by cases wide <;> decide), by decide⟩
theorem th_status (wide : Bool) (cx : Nat) (rs : List (Nat × Nat)) (hcx : cx < 4294967296) (hr : ∀ x ∈ rs, x.1 < 18446744073709551616 ∧ x.2 < 18446744073709551616) (hrn : rs.length ≤ 1048576) (ao : Option Addr) (cap n : Nat) (w : World) (h : BRow w ao cap (rStatusC wide cx rs).1) (hn : (rStatusC wide cx rs).1.length = n) :
    Calls Tryd.prog 20 #[.slice ao n cap, .bool wide] w fun e w' => ∃ (cx' : Nat) (ra : Option Addr) (rn rc : Nat) (rs' : List (Nat × Nat)) (er : Nat), e = .returned (.tuple #[.agg #[.int .u32 (cx' : Int), .slice ra rn rc], .int .i64 (er : Int)]) ∧ rs'.length = rn ∧ Runs w' ra rs' ∧ Below w.heap.size w w' ∧ ((rStatusC wide cx rs).2 = 0 → er = 0 ∧ cx' = cx ∧ rs' = rs) := by
  by_cases hb : (fitA wide rs && decide (0 < rs.length)) = true
  · have hc : rStatusC wide cx rs = (stL wide cx rs, 0) := by unfold rStatusC; rw [if_pos hb]
    rw [hc] at h hn ⊢
    have hb2 : fitA wide rs = true ∧ 0 < rs.length := by simpa using hb
    obtain ⟨e0, e1, e2, e3⟩ := st_at wide cx rs hcx hr hb2.1 hb2.2 hrn
    cases wide
    · have hz := unpackStatus0_ok ao cap n _ w h hn rs.length e0 e1
      rw [e2, e3] at hz
      refine hz.mono ?_
      rintro e w' ⟨ra, rc, rfl, hu, hb'⟩
      exact ⟨cx, ra, rs.length, rc, rs, 0, rfl, rfl, hu, hb', fun _ => ⟨rfl, rfl, rfl⟩⟩
    · have hz := unpackStatus1_ok ao cap n _ w h hn rs.length e0 e1
      rw [e2, e3] at hz
      refine hz.mono ?_
      rintro e w' ⟨ra, rc, rfl, hu, hb'⟩
      exact ⟨cx, ra, rs.length, rc, rs, 0, rfl, rfl, hu, hb', fun _ => ⟨rfl, rfl, rfl⟩⟩
  · have hc : rStatusC wide cx rs = ([], 81) := by unfold rStatusC; rw [if_neg hb]
    rw [hc] at h hn ⊢
    cases wide
    · refine (unpackStatus0_no ao cap n _ w h hn 0 (sto_nil _) 81 (by decide) (by decide)).mono ?_
      rintro e w' ⟨rfl, hb'⟩
      exact ⟨0, none, 0, 0, [], 81, rfl, rfl, runs_nil _ _, hb', fun h => by cases h⟩
    · refine (unpackStatus1_no ao cap n _ w h hn 0 (sto_nil _) 81 (by decide) (by decide)).mono ?_
      rintro e w' ⟨rfl, hb'⟩
      exact ⟨0, none, 0, 0, [], 81, rfl, rfl, runs_nil _ _, hb', fun h => by cases h⟩
theorem th_error (c : Nat) (s : ByteArray) (pl : Bool) (a : Nat) (hc4 : c < 4294967296) (ha8 : a < 18446744073709551616) (ao : Option Addr) (cap n : Nat) (w : World) (h : BRow w ao cap (rErrorC c s pl a).1) (hn : (rErrorC c s pl a).1.length = n) (hT : Tabs w) :
    Calls Tryd.prog 22 #[.slice ao n cap, .bool pl] w fun e w' => ∃ (c' : Nat) (s' : ByteArray) (pl' : Bool) (a' : Nat) (er : Nat), e = .returned (.tuple #[.agg #[.int .u32 (c' : Int), .string s', .bool pl', .int .u64 (a' : Int)], .int .i64 (er : Int)]) ∧ Below w.heap.size w w' ∧ ((rErrorC c s pl a).2 = 0 → er = 0 ∧ c' = c ∧ s' = s ∧ pl' = pl ∧ a' = a) := by
  by_cases hb : tx s = true ∧ (pl = true ∨ a = 0)
  · obtain ⟨ht, hp⟩ := hb
    obtain ⟨ht1, _⟩ := tx_true ht
    cases pl
    · have ha0 : a = 0 := by simpa using hp
      subst ha0
      have hc : rErrorC c s false 0 = (erL0 c s, 0) := by unfold rErrorC; rw [if_pos ht]; simp
      rw [hc] at h hn ⊢
      have hL : erL0 c s = bigTo c 4 4 ++ (bigTo s.size 2 2 ++ (sbytes s ++ [])) := by simp [erL0]
      obtain ⟨q1, q2, q3⟩ := rd_at (l := erL0 c s) (pre := []) (tl := bigTo s.size 2 2 ++ (sbytes s ++ [])) c 4 0 hL rfl (by omega)
      obtain ⟨p1, p2, p3⟩ := rd_at (l := erL0 c s) (pre := bigTo c 4 4) (tl := sbytes s ++ []) s.size 2 (0 + 4) hL (by simp [bigTo_length]) (by omega)
      obtain ⟨r1, r2, r3⟩ := rr_at (l := erL0 c s) (pre := bigTo c 4 4 ++ bigTo s.size 2 2) (m := sbytes s) (tl := []) s.size (0 + 4 + 2) (by rw [hL]; simp) (by simp [bigTo_length]) (sbytes_length s)
      refine (unpackError_ok0 ao cap n _ w h hn hT c (0 + 4) 0 s.size (0 + 4 + 2) 0 (0 + 4 + 2 + s.size) 0 s ⟨q2, q3, by rw [q1]; rfl⟩ ⟨p2, p3, by rw [p1]; rfl⟩ ⟨by rw [r2, bstr_sbytes], r3, by rw [ht, r1]; rfl⟩ (by rw [hL]; simp [bigTo_length, sbytes_length, ndE]; omega)).mono ?_
      rintro e w' ⟨rfl, hb'⟩
      exact ⟨c, s, false, 0, 0, rfl, hb', fun _ => ⟨rfl, rfl, rfl, rfl, rfl⟩⟩
    · have hc : rErrorC c s true a = (erL1 c s a, 0) := by unfold rErrorC; rw [if_pos ht]; simp
      rw [hc] at h hn ⊢
      have hL : erL1 c s a = bigTo c 4 4 ++ (bigTo s.size 2 2 ++ (sbytes s ++ (bigTo a 8 8 ++ []))) := by simp [erL1]
      obtain ⟨q1, q2, q3⟩ := rd_at (l := erL1 c s a) (pre := []) (tl := bigTo s.size 2 2 ++ (sbytes s ++ (bigTo a 8 8 ++ []))) c 4 0 hL rfl (by omega)
      obtain ⟨p1, p2, p3⟩ := rd_at (l := erL1 c s a) (pre := bigTo c 4 4) (tl := sbytes s ++ (bigTo a 8 8 ++ [])) s.size 2 (0 + 4) hL (by simp [bigTo_length]) (by omega)
      obtain ⟨r1, r2, r3⟩ := rr_at (l := erL1 c s a) (pre := bigTo c 4 4 ++ bigTo s.size 2 2) (m := sbytes s) (tl := bigTo a 8 8 ++ []) s.size (0 + 4 + 2) (by rw [hL]; simp) (by simp [bigTo_length]) (sbytes_length s)
      obtain ⟨t1, t2, t3⟩ := rd_at (l := erL1 c s a) (pre := bigTo c 4 4 ++ bigTo s.size 2 2 ++ sbytes s) (tl := []) a 8 (0 + 4 + 2 + s.size) (by rw [hL]; simp) (by simp [bigTo_length, sbytes_length]; omega) (by omega)
      refine (unpackError_ok1 ao cap n _ w h hn hT c (0 + 4) 0 s.size (0 + 4 + 2) 0 (0 + 4 + 2 + s.size) 0 s ⟨q2, q3, by rw [q1]; rfl⟩ ⟨p2, p3, by rw [p1]; rfl⟩ ⟨by rw [r2, bstr_sbytes], r3, by rw [ht, r1]; rfl⟩ a (0 + 4 + 2 + s.size + 8) 0 ⟨t2, t3, by rw [t1]; rfl⟩ (by rw [hL]; simp [bigTo_length, sbytes_length, ndE]; omega)).mono ?_
      rintro e w' ⟨rfl, hb'⟩
      exact ⟨c, s, true, a, 0, rfl, hb', fun _ => ⟨rfl, rfl, rfl, rfl, rfl⟩⟩
  · have hc : rErrorC c s pl a = ([], 81) := by
      unfold rErrorC; split
      · split
        · rename_i h1 h2; exact absurd ⟨h1, .inl h2⟩ hb
        · split
          · rename_i h1 h2 h3; exact absurd ⟨h1, .inr h3⟩ hb
          · rfl
      · rfl
    rw [hc] at h hn ⊢
    cases pl
    · refine (unpackError_no0 ao cap n _ w h hn hT 0 0 81 0 0 81 0 81 ⟨#[]⟩ (by decide) (by decide) ⟨by decide, by decide, by decide⟩ (by decide)).mono ?_
      rintro e w' ⟨rfl, hb'⟩
      exact ⟨0, ⟨#[]⟩, false, 0, 81, rfl, hb', fun h => by cases h⟩
    · refine (unpackError_no1 ao cap n _ w h hn hT 0 0 81 0 0 81 0 81 ⟨#[]⟩ (by decide) (by decide) ⟨by decide, by decide, by decide⟩ 0 0 81 (by decide) (by decide)).mono ?_
      rintro e w' ⟨rfl, hb'⟩
      exact ⟨0, ⟨#[]⟩, false, 0, 81, rfl, hb', fun h => by cases h⟩
theorem th_data (off : Nat) (m : List Nat) (ho : off < 18446744073709551616) (ao : Option Addr) (cap n : Nat) (w : World) (h : BRow w ao cap (rDataC off m).1) (hn : (rDataC off m).1.length = n) :
    Calls Tryd.prog 23 #[.slice ao n cap] w fun e w' => ∃ (o' : Nat) (da : Option Addr) (dn dc : Nat) (m' : List Nat) (er : Nat), e = .returned (.tuple #[.agg #[.int .u64 (o' : Int), .slice da dn dc], .int .i64 (er : Int)]) ∧ m'.length = dn ∧ BRow w' da dc m' ∧ Below w.heap.size w w' ∧ ((rDataC off m).2 = 0 → er = 0 ∧ o' = off ∧ m' = m) := by
  by_cases hb : m = []
  · have hc : rDataC off m = ([], 81) := by unfold rDataC; rw [if_pos hb]
    rw [hc] at h hn ⊢
    refine (unpackData_no ao cap n _ w h hn (by decide)).mono ?_
    rintro e w' ⟨rfl, hb'⟩
    exact ⟨0, none, 0, 0, [], 81, rfl, rfl, brow_nil _, hb', fun h => by cases h⟩
  · have hc : rDataC off m = (daL off m, 0) := by unfold rDataC; rw [if_neg hb]
    rw [hc] at h hn ⊢
    have hm0 : 0 < m.length := List.length_pos_iff.2 hb
    have hl : (daL off m).length = 8 + m.length := by simp [daL, bigTo_length]
    obtain ⟨q1, q2, q3⟩ := rd_at (l := daL off m) (pre := []) (tl := m) off 8 0 (by simp [daL]) rfl (by omega)
    obtain ⟨p1, p2, p3⟩ := rr_at (l := daL off m) (pre := bigTo off 8 8) (m := m) (tl := []) m.length (0 + 8) (by simp [daL]) (by simp [bigTo_length]) rfl
    have hz := unpackData_ok ao cap n (daL off m) w h hn (by omega)
    rw [q2, q3, show (daL off m).length - (0 + 8) = m.length by omega, p2] at hz
    have hdl : m.length ≤ 140737488351232 := by have := h.len; simp only at this; omega
    refine hz.mono ?_
    rintro e w' ⟨da, dc, dn, rfl, hl2, hr⟩
    exact ⟨off, da, dn, dc, m, 0, rfl, hl2, hr.brow hdl, hr.bel, fun _ => ⟨rfl, rfl, rfl⟩⟩
theorem th_hole (off ln : Nat) (ho : off < 18446744073709551616) (hl4 : ln < 4294967296) (ao : Option Addr) (cap n : Nat) (w : World) (h : BRow w ao cap (hoL off ln)) (hn : (hoL off ln).length = n) :
    Calls Tryd.prog 24 #[.slice ao n cap] w fun e w' => e = .returned (.tuple #[.agg #[.int .u64 (off : Int), .int .u32 (ln : Int)], .int .i64 0]) ∧ Below w.heap.size w w' := by
  have hl : (hoL off ln).length = 12 := by simp [hoL, bigTo_length]
  obtain ⟨q1, q2, q3⟩ := rd_at (l := hoL off ln) (pre := []) (tl := bigTo ln 4 4 ++ []) off 8 0 (by simp [hoL]) rfl (by omega)
  obtain ⟨p1, p2, p3⟩ := rd_at (l := hoL off ln) (pre := bigTo off 8 8) (tl := []) ln 4 (0 + 8) (by simp [hoL]) (by simp [bigTo_length]) (by omega)
  have hz := unpackHole_ok ao cap n _ w h hn hl
  rw [q2, q3, p2] at hz
  exact hz
end Go.Proofs.YtjikibhhhchgeaaDoor
