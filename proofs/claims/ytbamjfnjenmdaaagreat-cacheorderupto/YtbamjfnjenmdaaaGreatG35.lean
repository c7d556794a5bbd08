import Derived.Test.YtbamjfnjenmdaaaGreatzCQ
import Derived.Shelf.SlicesE.Clone
import Derived.Shelf.SlSortCmp.WholeK
import Derived.Shelf.SlSortCmp.NoneTotal
import Derived.Test.YtbamjfnjenmdaaaGreatProg
import Derived.Test.YtbamjfnjenmdaaaGreatG28
namespace Go.Proofs.YtbamjfnjenmdaaaGreat.C
open Go.RowKit Go.Maps Go.Shelf Go.Sort Go.Proofs.YtbamjfnjenmdaaaGreat
attribute [local go_sem] Oper.semAt_some
set_option linter.unusedVariables false
set_option linter.unusedSimpArgs false
set_option maxRecDepth 100000

section
variable {w w' : World} {P : Loc} {S S' : K.Dk} {C C' : Ch}
/-- bytes are laid into a line, which is dirty then -/
theorem RC.lay (h : RC w P S C) {L1 L2 : List Ln} {l : Ln} (hL : C.L = L1 ++ l :: L2) {bs : K.Bl} (hbs : K.OkB bs) {a : Addr} {m cap : Nat} (hm : m = 512) (hsrc : ∀ j v, (bs.map bv)[j]? = some v → w.cell? (a.add j) = some v) :
    ∃ w5, (∀ ty, (Builtin.copy_ #[44, 44] ty #[.slice (some ⟨l.blk, 0, none⟩) 512 512, .slice (some a) m cap]).run Tryz.prog w = .ok (goInt 512) w5) ∧ w5.frozen? ⟨l.blk, 512, none⟩ = false ∧ (∃ x, w5.cell? ⟨l.blk, 512, none⟩ = some x) ∧ CAct w (w5.setCell ⟨l.blk, 512, none⟩ (.bool true)) P P C S { C with L := L1 ++ { l with dat := bs, dirty := true } :: L2 } := by
  have hl : l ∈ C.L := by rw [hL]; simp
  obtain ⟨_, ha⟩ := h.fill hL hbs (cap := cap) hm hsrc 0
  have hln : (w.setRow l.blk (lcells { l with dat := bs })).heap[l.blk]? = some (.cells (lcells { l with dat := bs }) TLn (0, 0)) := setRow_heap w l.blk _ _ TLn _ (h.ln l hl)
  have hset := K.blk_set hln 512 (.bool true)
  rw [lcells_set hbs] at hset
  have hk : K.Kp (w.setRow l.blk (lcells { l with dat := bs })) ((w.setRow l.blk (lcells { l with dat := bs })).setCell ⟨l.blk, 512, none⟩ (.bool true)) [l.blk] := (K.Kp.refl _ _).set (.inl (by simp)) 512 _
  have a2 := ha.rc.line (L1 := L1) (L2 := L2) (l := { l with dat := bs }) rfl (l' := { l with dat := bs, dirty := true }) hset rfl rfl hbs hk
  refine ⟨_, fun ty => (h.fill hL hbs (cap := cap) hm hsrc ty).1, K.frozen_of hln, ⟨_, (K.cell_of hln).trans (lcells_dirty hbs)⟩, ha.trans a2⟩
/-- Write -/
def writeR (S : K.Dk) (C : Ch) (s : Int) (bs : K.Bl) (b : Nat) : Int × K.Dk × Ch :=
  if K.inD S.n s = true then
    (if bs.length = 512 then
      match lineAt C.L s with
      | some l => (0, S, { hitC C with L := dropL C.L s ++ [{ l with dat := bs, dirty := true }] })
      | none => if (roomR S (missC C)).1 = 0 then (0, (roomR S (missC C)).2.1, { (roomR S (missC C)).2.2 with L := (roomR S (missC C)).2.2.L ++ [⟨s.toNat, b, bs, true, isN C.notes s⟩] })
        else roomR S (missC C)
    else (32, S, C))
  else (31, S, C)
/-- where a write's bytes come from -/
def Src (w : World) (F : List Nat) (ao : Option Addr) (bs : K.Bl) : Prop := ∃ sb so, ao = some ⟨sb, so, none⟩ ∧ sb ∉ F ∧ sb < w.heap.size ∧ ∀ j v, (bs.map bv)[j]? = some v → w.cell? ⟨sb, so + j, none⟩ = some v
theorem Src.through {P' : Loc} {ao : Option Addr} {bs : K.Bl} (hs : Src w (P.fp C.L) ao bs) (ha : CAct w w' P P' C S' C') : ∃ a, ao = some a ∧ ∀ j v, (bs.map bv)[j]? = some v → w'.cell? (a.add j) = some v := by
  obtain ⟨sb, so, rfl, hf, hl, hc⟩ := hs
  refine ⟨_, rfl, fun j v hv => ?_⟩
  have h1 := hc j v hv
  have hb := ha.kp.block sb hl hf
  rw [add_plain]
  unfold World.cell? at h1 ⊢
  rw [hb]; exact h1
set_option maxHeartbeats 8000000 in
theorem write_c (h : RC w P S C) (hf : K.FsOk S.fs) (hq : S.q.length + dirtyN C.L < 1048576) (s : Int) {bs : K.Bl} (hlt : ∀ x ∈ bs, x < 256) {ao : Option Addr} {m cap : Nat} (hm : m = bs.length) (hml : m ≤ 140737488351232) (hsrc : m = 512 → Src w (P.fp C.L) ao bs) :
    Calls Tryz.prog 9 #[.pointer (some ⟨P.bc, 0, none⟩), .int .i64 s, .slice ao m cap] w fun r w' => ∃ b, r = .returned (.int .i64 (writeR S C s bs b).1) ∧ ∃ P', CAct w w' P P' C (writeR S C s bs b).2.1 (writeR S C s bs b).2.2 := by
  have hrf := refusal_c h s
  unfold writeR
  by_cases hi : K.inD S.n s = true
  · simp only [hi, if_true] at hrf ⊢
    obtain ⟨t, rfl, ht⟩ := inD_nat hi
    by_cases h512 : bs.length = 512
    · simp only [h512, if_true]
      obtain rfl : m = 512 := by omega
      have hbs : K.OkB bs := ⟨h512, hlt⟩
      have HSR := hsrc rfl
      have HSrc : Hid (Src w (P.fp C.L) ao bs) := HSR
      obtain ⟨sb, so, rfl, _⟩ := HSR
      have hn1 := h.rk.n1
      have hwf : I.wfK (t : Int) := K.wfI t (by omega)
      have HU : Hid (∀ w1, CAct w w1 P P C S C → Calls Tryz.prog 28 #[.pointer (some ⟨P.bc, 0, none⟩), .int .i64 t] w1 fun r w2 => r = .returned (linePtr (lineAt C.L t)) ∧ ∃ P', CAct w w2 P P' C S (useC C t)) := fun w1 ha => by
        refine (use_c ha.rc hwf).mono ?_
        rintro r w2 ⟨rfl, P', ha'⟩
        exact ⟨rfl, P', ha.trans ha'⟩
      cases hl : lineAt C.L t with
      | some l =>
        simp only [hl, linePtr] at HU ⊢
        have HC : Hid (∀ w1 P1, CAct w w1 P P1 C S (useC C t) → ∃ w5, (∀ ty, (Builtin.copy_ #[44, 44] ty #[.slice (some ⟨l.blk, 0, none⟩) 512 512, .slice (some ⟨sb, so, none⟩) 512 cap]).run Tryz.prog w1 = .ok (goInt 512) w5) ∧ w5.frozen? ⟨l.blk, 512, none⟩ = false ∧ (∃ x, w5.cell? ⟨l.blk, 512, none⟩ = some x) ∧ ∃ P', CAct w (w5.setCell ⟨l.blk, 512, none⟩ (.bool true)) P P' C S { hitC C with L := dropL C.L t ++ [{ l with dat := bs, dirty := true }] }) := fun w1 P1 ha => by
          obtain ⟨a, ea, hs⟩ := HSrc.out.through ha
          cases ea
          have hu : useC C t = { hitC C with L := dropL C.L t ++ [l] } := by unfold useC; rw [hl]
          rw [hu] at ha
          obtain ⟨w5, h1, h2, h3, h4⟩ := ha.rc.lay (L1 := dropL C.L t) (L2 := []) rfl hbs (cap := cap) rfl hs
          exact ⟨w5, h1, h2, h3, P1, ha.trans h4⟩
        have e1 := eql_lp_some
        clear h hl hf hq hsrc hm h512 hbs hml
        go_enter Tryz.func9, Tryz.ntmps9
        go_wp2_with (first | (go_at_call 27; refine hrf.mono ?_; clear hrf; rintro r w1 ⟨rfl, ha1⟩) | (go_at_call 28; refine (HU.out w1 ha1).mono ?_; clear HU; rintro r w2 ⟨rfl, P2, ha2⟩; obtain ⟨w5, hcp, f5, ⟨x5, k5⟩, ha5⟩ := HC.out w2 P2 ha2; clear HC))
        go_ret
        first | exact ⟨0, rfl, ha5⟩ | exact ⟨rfl, ha5⟩
      | none =>
        simp only [hl, linePtr] at HU ⊢
        have huse : useC C t = missC C := by unfold useC; rw [hl]
        rw [huse] at HU
        have hsd : (secs (missC C).L).Nodup := h.sd
        have hlim := h.lim
        obtain ⟨hh, hroom, htwo⟩ := room_ok (S := S) (C := missC C) hsd hlim.1 hlim.2.1
        have HM : Hid (∀ w1 P1, CAct w w1 P P1 C S (missC C) → Calls Tryz.prog 29 #[.pointer (some ⟨P.bc, 0, none⟩)] w1 fun r w2 => r = .returned (.int .i64 (roomR S (missC C)).1) ∧ ∃ P', CAct w w2 P P' C (roomR S (missC C)).2.1 (roomR S (missC C)).2.2) := fun w1 P1 ha => by
          have hr := room_c ha.rc hf hq
          rw [ha.bc] at hr
          refine hr.mono ?_
          rintro r w2 ⟨rfl, P', ha'⟩
          exact ⟨rfl, P', ha.trans ha'⟩
        have hnn : lineAt (missC C).L t = none := hl
        have hno := hh.sub t hnn
        have hnS := hh.n
        have hnt : (roomR S (missC C)).2.2.notes = C.notes := hh.notes
        have hmost : (roomR S (missC C)).2.2.most = C.most := hh.most
        generalize hR : roomR S (missC C) = R at *
        obtain ⟨e, S1, C1⟩ := R
        simp only at *
        have e1 := eql_lp_none
        rcases htwo with he | he
        · subst he
          simp only [if_true]
          have HAD : Hid (∀ w3 P3, CAct w w3 P P3 C S1 C1 → Calls Tryz.prog 30 #[.pointer (some ⟨P.bc, 0, none⟩), .int .i64 t] w3 fun r w4 => ∃ b, r = .returned (.pointer (some ⟨b, 0, none⟩)) ∧ ∃ w5, (∀ ty, (Builtin.copy_ #[44, 44] ty #[.slice (some ⟨b, 0, none⟩) 512 512, .slice (some ⟨sb, so, none⟩) 512 cap]).run Tryz.prog w4 = .ok (goInt 512) w5) ∧ w5.frozen? ⟨b, 512, none⟩ = false ∧ (∃ x, w5.cell? ⟨b, 512, none⟩ = some x) ∧ ∃ P', CAct w (w5.setCell ⟨b, 512, none⟩ (.bool true)) P P' C S1 { C1 with L := C1.L ++ [⟨t, b, bs, true, isN C.notes t⟩] }) := fun w3 P3 ha => by
            have had := addLine_c ha.rc (s := t) (by rw [hnS]; exact ht) hno (by rw [hmost]; exact hroom rfl)
            rw [ha.bc] at had
            refine had.mono ?_
            rintro r w4 ⟨b, P4, rfl, ha4⟩
            have hat := ha.trans ha4
            obtain ⟨a, ea, hs⟩ := HSrc.out.through hat
            cases ea
            obtain ⟨w5, h1, h2, h3, h4⟩ := ha4.rc.lay (L1 := C1.L) (L2 := []) (l := newLn t b (isN C1.notes t)) rfl hbs (cap := cap) rfl hs
            refine ⟨b, rfl, w5, h1, h2, h3, P4, ?_⟩
            have := hat.trans h4
            rw [← hnt]
            exact this
          clear h hl hf hq hh hroom hno hnS hnt hmost hR hnn hi hsd hsrc hm h512 hbs hml
          go_enter Tryz.func9, Tryz.ntmps9
          go_wp2_with (first | (go_at_call 27; refine hrf.mono ?_; clear hrf; rintro r w1 ⟨rfl, ha1⟩) | (go_at_call 28; refine (HU.out w1 ha1).mono ?_; clear HU; rintro r w2 ⟨rfl, P2, ha2⟩) | (go_at_call 29; refine (HM.out w2 P2 ha2).mono ?_; clear HM; rintro r w3 ⟨rfl, P3, ha3⟩; have had := HAD.out w3 P3 ha3; clear HAD) | (go_at_call 30; refine had.mono ?_; clear had; rintro r w4 ⟨b, rfl, w5, hcp, f5, ⟨x5, k5⟩, ha5⟩))
          go_ret
          exact ⟨b, rfl, ha5⟩
        · subst he
          simp only [show ((33 : Int) = 0) = False by simp, if_false]
          clear h hl hf hq hh hroom hno hnS hnt hmost hR hnn hi hsd hsrc hm h512 hbs hml
          go_enter Tryz.func9, Tryz.ntmps9
          go_wp2_with (first | (go_at_call 27; refine hrf.mono ?_; clear hrf; rintro r w1 ⟨rfl, ha1⟩) | (go_at_call 28; refine (HU.out w1 ha1).mono ?_; clear HU; rintro r w2 ⟨rfl, P2, ha2⟩) | (go_at_call 29; refine (HM.out w2 P2 ha2).mono ?_; clear HM; rintro r w3 ⟨rfl, ha3⟩))
          go_ret
          first | exact ⟨0, rfl, ha3⟩ | exact ⟨rfl, ha3⟩
    · simp only [h512, if_false]
      have hne : ¬ (m : Int) = 512 := by omega
      have hne' : ¬ m = 512 := by omega
      clear h hf hq hsrc
      go_enter Tryz.func9, Tryz.ntmps9
      go_wp2_with (go_at_call 27; refine hrf.mono ?_; clear hrf; rintro r w1 ⟨rfl, ha1⟩)
      go_ret
      first | exact ⟨0, rfl, P, ha1⟩ | exact ⟨rfl, P, ha1⟩
  · simp only [hi, if_false] at hrf ⊢
    clear h hf hq hsrc
    go_enter Tryz.func9, Tryz.ntmps9
    go_wp2_with (go_at_call 27; refine hrf.mono ?_; clear hrf; rintro r w1 ⟨rfl, ha1⟩)
    go_ret
    first | exact ⟨0, rfl, P, ha1⟩ | exact ⟨rfl, P, ha1⟩
end
end Go.Proofs.YtbamjfnjenmdaaaGreat.C

namespace Go.Proofs
open Go.Shelf
def Tryz.cloneS_ren : Go.Shelf.Ren := ⟨fun | 41 => 50 | n => n, fun | 22 => 22 | 23 => 66 | 4 => 4 | n => n, fun | n => n⟩
theorem Tryz.cloneS : Go.Proofs.SlLaysE0.n41 Tryz.prog Tryz.cloneS_ren := {
  mixed := by kernel_rfl
  f41 := ⟨Tryz.f50.name, by decide, Tryz.func50.trans (congrArg some (by kernel_rfl))⟩
  t4 := Tryz.underlying4
  a4 := Tryz.isAgg4
  z4 := Tryz.sizeOf4
  v4 := Tryz.zeroValue4
  t22 := Tryz.underlying22
  a22 := Tryz.isAgg22
  z22 := Tryz.sizeOf22
  v22 := Tryz.zeroValue22 }
def Tryz.sortS_ren : Go.Shelf.Ren := ⟨fun | 6 => 104 | 15 => 62 | 14 => 127 | 28 => 90 | 29 => 91 | 20 => 129 | 21 => 130 | 22 => 131 | 23 => 132 | 24 => 133 | 25 => 134 | 26 => 135 | 27 => 136 | 46 => 137 | 47 => 112 | 48 => 113 | 49 => 138 | 50 => 139 | 57 => 140 | n => n, fun | 22 => 22 | 24 => 66 | 25 => 143 | 3 => 3 | 39 => 133 | 0 => 0 | 53 => 102 | 55 => 88 | 4 => 4 | 46 => 160 | 45 => 159 | 50 => 98 | 5 => 5 | 9 => 9 | 66 => 182 | 70 => 186 | 76 => 195 | 77 => 196 | n => n, fun | n => n⟩
theorem Tryz.sortS : Go.Proofs.SlLaysF0.n6 Tryz.prog Tryz.sortS_ren := {
  mixed := by kernel_rfl
  f6 := ⟨Tryz.f104.name, by decide, Tryz.func104.trans (congrArg some (by kernel_rfl))⟩
  f14 := ⟨Tryz.f127.name, by decide, Tryz.func127.trans (congrArg some (by kernel_rfl))⟩
  f15 := Tryz.func62.trans (congrArg some (by kernel_rfl))
  f20 := ⟨Tryz.f129.name, by decide, Tryz.func129.trans (congrArg some (by kernel_rfl))⟩
  f21 := ⟨Tryz.f130.name, by decide, Tryz.func130.trans (congrArg some (by kernel_rfl))⟩
  f22 := ⟨Tryz.f131.name, by decide, Tryz.func131.trans (congrArg some (by kernel_rfl))⟩
  f23 := ⟨Tryz.f132.name, by decide, Tryz.func132.trans (congrArg some (by kernel_rfl))⟩
  f24 := ⟨Tryz.f133.name, by decide, Tryz.func133.trans (congrArg some (by kernel_rfl))⟩
  f25 := ⟨Tryz.f134.name, by decide, Tryz.func134.trans (congrArg some (by kernel_rfl))⟩
  f26 := ⟨Tryz.f135.name, by decide, Tryz.func135.trans (congrArg some (by kernel_rfl))⟩
  f27 := ⟨Tryz.f136.name, by decide, Tryz.func136.trans (congrArg some (by kernel_rfl))⟩
  f28 := Tryz.func90.trans (congrArg some (by kernel_rfl))
  f29 := Tryz.func91.trans (congrArg some (by kernel_rfl))
  f46 := ⟨Tryz.f137.name, by decide, Tryz.func137.trans (congrArg some (by kernel_rfl))⟩
  f47 := Tryz.func112.trans (congrArg some (by kernel_rfl))
  f48 := Tryz.func113.trans (congrArg some (by kernel_rfl))
  f49 := ⟨Tryz.f138.name, by decide, Tryz.func138.trans (congrArg some (by kernel_rfl))⟩
  f50 := ⟨Tryz.f139.name, by decide, Tryz.func139.trans (congrArg some (by kernel_rfl))⟩
  f57 := ⟨Tryz.f140.name, by decide, Tryz.func140.trans (congrArg some (by kernel_rfl))⟩
  t0 := Tryz.underlying0
  a0 := Tryz.isAgg0
  z0 := Tryz.sizeOf0
  v0 := Tryz.zeroValue0
  t3 := Tryz.underlying3
  a3 := Tryz.isAgg3
  z3 := Tryz.sizeOf3
  v3 := Tryz.zeroValue3
  t4 := Tryz.underlying4
  a4 := Tryz.isAgg4
  z4 := Tryz.sizeOf4
  v4 := Tryz.zeroValue4
  t5 := Tryz.underlying5
  a5 := Tryz.isAgg5
  z5 := Tryz.sizeOf5
  v5 := Tryz.zeroValue5
  t9 := Tryz.underlying9
  a9 := Tryz.isAgg9
  z9 := Tryz.sizeOf9
  v9 := Tryz.zeroValue9
  t22 := Tryz.underlying22
  a22 := Tryz.isAgg22
  z22 := Tryz.sizeOf22
  v22 := Tryz.zeroValue22
  t25 := Tryz.underlying143
  a25 := Tryz.isAgg143
  z25 := Tryz.sizeOf143
  v25 := Tryz.zeroValue143
  t39 := Tryz.underlying133
  a39 := Tryz.isAgg133
  z39 := Tryz.sizeOf133
  v39 := Tryz.zeroValue133
  t45 := Tryz.underlying159
  a45 := Tryz.isAgg159
  z45 := Tryz.sizeOf159
  v45 := Tryz.zeroValue159
  t46 := Tryz.underlying160
  a46 := Tryz.isAgg160
  z46 := Tryz.sizeOf160
  v46 := Tryz.zeroValue160
  t50 := Tryz.underlying98
  a50 := Tryz.isAgg98
  z50 := Tryz.sizeOf98
  v50 := Tryz.zeroValue98
  t53 := Tryz.underlying102
  a53 := Tryz.isAgg102
  z53 := Tryz.sizeOf102
  v53 := Tryz.zeroValue102
  t55 := Tryz.underlying88
  a55 := Tryz.isAgg88
  z55 := Tryz.sizeOf88
  v55 := Tryz.zeroValue88
  t66 := Tryz.underlying182
  a66 := Tryz.isAgg182
  z66 := Tryz.sizeOf182
  v66 := Tryz.zeroValue182
  t70 := Tryz.underlying186
  a70 := Tryz.isAgg186
  z70 := Tryz.sizeOf186
  v70 := Tryz.zeroValue186
  t76 := Tryz.underlying195
  a76 := Tryz.isAgg195
  z76 := Tryz.sizeOf195
  v76 := Tryz.zeroValue195
  t77 := Tryz.underlying196
  a77 := Tryz.isAgg196
  z77 := Tryz.sizeOf196
  v77 := Tryz.zeroValue196 }
end Go.Proofs

namespace Go.Proofs.YtbamjfnjenmdaaaGreat.C
open Go.RowKit Go.Sort Go.Lib Go.Proofs.YtbamjfnjenmdaaaGreat
attribute [local go_sem] Oper.semAt_some
set_option linter.unusedVariables false
set_option linter.unusedSimpArgs false
set_option maxRecDepth 100000

theorem owns_capS {w : World} {base g n cap size : Nat} {e : TypeId} {xs : List Value} (h : w.ownsRow base e size (.slice (some ⟨g, 0, none⟩) n cap) n xs) : n ≤ cap ∧ cap ≤ maxLen ∧ base ≤ g ∧ g < w.heap.size ∧ True := by
  rcases h.2 with ⟨h', _⟩ | ⟨g', cap', cur, h', hb, hg, hnc, hcm, _⟩
  · simp at h'
  · simp only [Value.slice.injEq, Option.some.injEq, Addr.mk.injEq, and_true, true_and] at h'
    obtain ⟨rfl, rfl⟩ := h'
    exact ⟨hnc, hcm, hb, (Array.getElem?_eq_some_iff.1 hg).1, trivial⟩
set_option maxHeartbeats 1000000 in
theorem cmp1_any (x y : Int × Int) (W : World) : Calls Tryz.prog 69 #[.agg #[.int .i64 x.1, .int .i64 x.2], .agg #[.int .i64 y.1, .int .i64 y.2]] W fun e w' => e = .returned (.int .i64 (Lib.compareInt x.1 y.1)) ∧ ∃ q os', w' = grow (W.drewN q) os' := by
  have hcon := fun W' => Tryz.cmp_Compare_int x.1 y.1 W'
  generalize Lib.compareInt x.1 y.1 = r at hcon ⊢
  go_enter Tryz.func69, Tryz.ntmps69
  go_wp2_with (go_at_call 70; refine (hcon _).mono ?_; rintro e w' ⟨rfl, rfl⟩)
  go_ret
  exact ⟨rfl, 0, _, by rw [alloc_eq_grow, alloc_eq_grow, grow_grow]; rfl⟩
theorem cmpLays (blk off size : Nat) (w : World) : CmpLays Tryz.prog 69 #[] spcell 2 (fun x y => Lib.compareInt x.1 y.1) blk off size w :=
  fun _ _ _ _ x y => cmp1_any x y _
theorem ltLo (x y : Int × Int) : ltOf (fun x y : Int × Int => Lib.compareInt x.1 y.1) x y = decide (x.1 < y.1) := by
  unfold ltOf Lib.compareInt
  by_cases h1 : x.1 < y.1
  · simp [h1]
  · by_cases h2 : y.1 < x.1 <;> simp [h1, h2]
theorem swoLo : SWO (ltOf fun x y : Int × Int => Lib.compareInt x.1 y.1) where
  irrefl x := by rw [ltLo]; simp
  trans x y z h1 h2 := by rw [ltLo] at *; simp at *; omega
  ntrans x y z h1 h2 := by rw [ltLo] at *; simp at *; omega

theorem sort_block {enc : (Int × Int) → List Value} {k blk off n : Nat} {w : World} {d : Array (Int × Int)} {os : Array Obj} (i : Nat) (hi : i < w.heap.size) (hne : i ≠ blk) : (sortWorldK enc k w blk off n d os).heap[i]? = w.heap[i]? := by
  unfold sortWorldK grow putRowK putRow mapBlock
  simp only
  rw [Array.getElem?_append_left (by simpa using hi), Array.getElem?_modify, if_neg (Ne.symm hne)]
  rfl
/-- the pairs of a list lie in cells -/
def PRow (w : World) (blk off : Nat) (l : List (Int × Int)) : Prop := ∀ k p, l[k]? = some p → w.cell? ⟨blk, off + k * 2, none⟩ = some (.int .i64 p.1) ∧ w.cell? ⟨blk, off + k * 2 + 1, none⟩ = some (.int .i64 p.2)

/-- a list rises by its beginnings -/
def SortedLo (l : List (Int × Int)) : Prop := ∀ (i j : Nat) (p q : Int × Int), l[i]? = some p → l[j]? = some q → i < j → p.1 ≤ q.1
theorem sortS_any {w : World} {B g cap : Nat} {l : List (Int × Int)} (h : w.ownsRow B TSp 2 (.slice (some ⟨g, 0, none⟩) l.length cap) l.length (spcells l)) (hl : l.length < 4611686018427387904) :
    Calls Tryz.prog 104 #[.slice (some ⟨g, 0, none⟩) l.length cap, .func (.func 69) #[] #[]] w fun e w' => e = .returned (.tuple #[]) ∧ ∃ l' : List (Int × Int), l'.Perm l ∧ SortedLo l' ∧ PRow w' g 0 l' ∧ w.heap.size ≤ w'.heap.size ∧ w'.os = w.os ∧ w'.tape = w.tape ∧ w'.output = w.output ∧ ∀ i, i < w.heap.size → i ≠ g → w'.heap[i]? = w.heap[i]? := by
  have eg : ∀ args w, (callFunc 69 args).run Tryz.prog w = .ok (.enter 69 args) w := enters_of Tryz.func69 (by kernel_rfl) rfl
  obtain ⟨k1, k2, k3, k4, k5⟩ := owns_capS h
  have hH : HoldsK spcell 2 w g 0 l.toArray := by
    intro j hj
    rw [size_flatK] at hj
    have hj' : j < l.length * 2 := by simpa using hj
    refine ⟨?_, h.frozenAt _⟩
    rw [Nat.zero_add, h.cellAt j (by omega), get_flatK _ _ _ _ hj]
    have hq : j / 2 < l.length := by omega
    have hget : l[j / 2]? = some (l.toArray[j / 2]!) := by simp [hq]
    obtain ⟨a1, a2⟩ := spcells_get l (j / 2) _ hget
    rcases Nat.mod_two_eq_zero_or_one j with e | e
    · rw [show j = j / 2 * 2 by omega] at a1 ⊢
      rw [show j / 2 * 2 / 2 = j / 2 by omega, show j / 2 * 2 % 2 = 0 by omega]
      simpa [spcell] using a1
    · have e' : j = j / 2 * 2 + 1 := by omega
      rw [e'] at a2 ⊢
      rw [show (j / 2 * 2 + 1) / 2 = j / 2 by omega, show (j / 2 * 2 + 1) % 2 = 1 by omega] at *
      simpa [spcell] using a2
  have hcon := AnyQ.slices_SortFunc Tryz.sortS 2 Tryz.isAgg66 Tryz.sizeOf66 spcell (fun _ => rfl) (fun x v hv => by simp [spcell] at hv; rcases hv with rfl | rfl <;> rfl) (fun x y => Lib.compareInt x.1 y.1) swoLo 69 #[] g 0 cap l.toArray w eg (cmpLays g 0 _ w) hH k4 (by simpa using hl)
  change Calls Tryz.prog 104 _ _ _ at hcon
  have hsz : l.toArray.size = l.length := by simp
  rw [hsz] at hcon
  refine hcon.mono ?_
  rintro e w' ⟨rfl, d', n, os, hp, hs, rfl⟩
  refine ⟨rfl, d'.toList, ?_, ?_, ?_, size_sortWorldK_c _ _ _ _ _ _ _ _, rfl, rfl, rfl, fun i hi hne => sort_block i hi hne⟩
  · have h2 := hp.2.2
    have hd : d'.size = l.length := by rw [hp.1]; simp
    have e1 : d'.extract 0 l.length = d' := by rw [← hd]; simp
    have e2 : l.toArray.extract 0 l.length = l.toArray := by rw [← hsz]; simp
    rw [e1, e2] at h2
    simpa using h2
  · intro i j p q hi hj hij
    have hi' : i < d'.size := by have := (List.getElem?_eq_some_iff.1 hi).1; simpa using this
    have hj' : j < d'.size := by have := (List.getElem?_eq_some_iff.1 hj).1; simpa using this
    have h3 := hs i j (by omega) hij (by rw [← hsz, ← hp.1]; exact hj')
    rw [ltLo] at h3
    have e1 : d'[i]! = p := by
      rw [Array.getElem?_toList] at hi
      rw [getElem!_pos d' i hi']
      rw [Array.getElem?_eq_getElem hi'] at hi; exact Option.some.inj hi
    have e2 : d'[j]! = q := by
      rw [Array.getElem?_toList] at hj
      rw [getElem!_pos d' j hj']
      rw [Array.getElem?_eq_getElem hj'] at hj; exact Option.some.inj hj
    rw [e1, e2] at h3
    simp at h3
    exact h3
  · intro k p hk
    have hH' := holdsK_sortWorldK_c _ _ _ _ _ l.toArray d' n os hH k4 hp.1
    have hk' : k < d'.size := by have := (List.getElem?_eq_some_iff.1 hk).1; simpa using this
    have hpk : d'[k]! = p := by
      have := hk
      rw [Array.getElem?_toList] at this
      rw [getElem!_pos d' k hk']
      have h3 := Array.getElem?_eq_getElem hk'
      rw [h3] at this; exact Option.some.inj this
    have c0 := (hH'.cell (c := 0) hk' (by omega)).1
    have c1 := (hH'.cell (c := 1) hk' (by omega)).1
    rw [hpk] at c0 c1
    exact ⟨by simpa [spcell] using c0, by simpa [spcell] using c1⟩
end Go.Proofs.YtbamjfnjenmdaaaGreat.C
