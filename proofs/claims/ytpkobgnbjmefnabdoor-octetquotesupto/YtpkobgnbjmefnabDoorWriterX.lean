import Derived.Test.YtpkobgnbjmefnabDoorWriterW
import Derived.Test.YtpkobgnbjmefnabDoorPlainW
import Derived.Test.YtpkobgnbjmefnabDoorPlain
import Derived.Lib.AppendStr
namespace Go.Proofs.YtpkobgnbjmefnabDoor
open Go.RowKit
set_option linter.unusedVariables false
set_option maxRecDepth 100000

/-- the bytes of a string -/
def sbytes (s : ByteArray) : List Nat := s.data.toList.map UInt8.toNat
theorem sbytes_length (s : ByteArray) : (sbytes s).length = s.size := by simp [sbytes]
theorem sbytes_lt (s : ByteArray) : ∀ x ∈ sbytes s, x < 256 := by
  intro x hx
  obtain ⟨b, _, rfl⟩ := List.mem_map.1 hx
  exact UInt8.toNat_lt b
theorem strCells_bv (s : ByteArray) : Lib.strCells s = (sbytes s).map bv := by
  unfold Lib.strCells sbytes bv
  rw [List.map_map]; rfl

theorem run_append_two_string {P : Program} (w : World) (base : Nat) (t u ty e : TypeId) (i : TypeInfo) (ht : P.underlying t = some (.slice e)) (hu : P.underlying u = some .string) (hi : P.info? e = some i) (hz : i.zero = some (.int .u8 0))
    (hsize : i.size = 1) (hby : i.bytes = 1) (v : Value) (n : Nat) (xs : List Value) (hown : w.ownsRow base e 1 v n xs) (s : ByteArray)
    (hbytes : n + s.size ≤ 140737488355328) (hbase : base ≤ w.heap.size) :
    ∃ v' w', (Builtin.append_ #[t, u] ty #[v, .string s]).run P w = .ok v' w' ∧ w'.ownsRow base e 1 v' (n + s.size) (xs ++ Lib.strCells s) ∧ w.grownBy w' v.ownBlock ∧ Fresh w v v' := by
  have h63 : n + s.size ≤ maxLen := by unfold maxLen; omega
  rcases hown.2 with ⟨hv, hn⟩ | ⟨g, cap, cur, hv, hg, hcur, hnc, hcm, hsz, htk⟩
  · subst hv; subst hn
    have hxs : xs = [] := List.eq_nil_of_length_eq_zero (by simpa using hown.1)
    subst hxs
    obtain ⟨v', w', hrun, r1, r2, _⟩ := Lib.run_append_own_string (P := P) w w.heap.size t u ty e i ht hu hi hz hsize hby (.slice none 0 0) 0 [] (World.ownsRow_nil w _ e 1) s h63 hbytes (Nat.le_refl _)
    refine ⟨v', w', hrun, owns_mono r1 hbase, r2, ?_⟩
    rcases fresh_of_owns r1 with hf | hf
    · exact .inl hf
    · exact .inr hf
  · subst hv
    obtain ⟨v', w', hrun, r1, r2, _⟩ := Lib.run_append_own_string (P := P) w base t u ty e i ht hu hi hz hsize hby _ n xs hown s h63 hbytes hbase
    refine ⟨v', w', hrun, r1, r2, ?_⟩
    by_cases hroom : n + s.size ≤ cap
    · have hr := Lib.run_append_room_string (P := P) w t u ty e i ht hu hi hsize g n cap cur hcur s hroom (by omega)
      rw [hrun] at hr
      simp only [Result.ok.injEq] at hr
      rw [hr.1]; exact .inl rfl
    · have holds : ∀ j u, xs[j]? = some u → w.cell? ((⟨g, 0, none⟩ : Addr).add j) = some u := hown.cells (g := g) rfl
      have hxl : xs.length = n := by simpa using hown.1
      have hr := Lib.run_append_grow_string (P := P) w t u ty e i (.int .u8 0) ht hu hi hz ⟨g, 0, none⟩ n cap xs (by rw [hsize]; simpa using hxl) holds s (by omega) (by omega) (by rw [hby]; exact growslice_fits (by omega) (by omega))
      rw [hrun] at hr
      simp only [Result.ok.injEq] at hr
      rw [hr.1]; exact .inr ⟨w.heap.size, rfl, Nat.le_refl _⟩
theorem wpList_append_two_string {P : Program} (w : World) {ops : Array Oper} {rest : List Oper} {o : Oper} {a : Act} {Q : Exit → Act → World → Prop} (hgd : o.guard = none) (sl x : Operand) (t u : TypeId)
    (ho : o.op = .call { callee := .builtin .append, args := #[sl, x], argTypes := #[t, u] })
    (base : Nat) (e : TypeId) (i : TypeInfo) (ht : P.underlying t = some (.slice e)) (hu : P.underlying u = some .string) (hi : P.info? e = some i) (hz : i.zero = some (.int .u8 0))
    (hsize : i.size = 1) (hby : i.bytes = 1)
    (v : Value) (n : Nat) (xs : List Value) (hs : a.eval sl = v) (hown : w.ownsRow base e 1 v n xs) (s : ByteArray) (hx : a.eval x = .string s)
    (hbytes : n + s.size ≤ 140737488355328) (hbase : base ≤ w.heap.size)
    (h : ∀ ao cap w', w'.ownsRow base e 1 (.slice ao (n + s.size) cap) (n + s.size) (xs ++ Lib.strCells s) → w.grownBy w' v.ownBlock → Fresh w v (.slice ao (n + s.size) cap) → wpList P ops Q rest (a.put o.dst (.slice ao (n + s.size) cap)) w') : wpList P ops Q (o :: rest) a w := by
  refine wpList_plain hgd fun K hK => ?_
  obtain ⟨v', w', hr, h2, h3, h4⟩ := run_append_two_string (P := P) w base t u o.type e i ht hu hi hz hsize hby v n xs hown s hbytes hbase
  obtain ⟨ao, cap, rfl⟩ := owns_form h2
  unfold Oper.wp execOp
  simp only [ho, resolve, invoke, builtin, Sem.run_bind, Sem.run_pure, Result.andThen_ok, List.map_toArray, List.map_cons, List.map_nil, hs, hx, hr]
  exact hK _ _ (h ao cap w' h2 h3 h4)

set_option maxHeartbeats 400000 in
theorem newWriter_any (w : World) :
    Calls Tryd.prog 16 #[] w fun e w' => e = .returned (.pointer (some ⟨w.heap.size, 0, none⟩)) ∧ w' = w.alloc (.cells #[.bool true, .slice none 0 0] 61) := by
  go_enter Tryd.func16, Tryd.ntmps16
  go_wp2
  go_ret
  exact ⟨rfl, rfl⟩
theorem heap_new (w : World) (o : Obj) : (w.alloc o).heap[w.heap.size]? = some o := by
  show (w.heap.push o)[w.heap.size]? = _
  simp
theorem wok_new (w : World) : WOk (w.alloc (.cells #[.bool true, .slice none 0 0] 61)) w.heap.size w.heap.size (.slice none 0 0) [] :=
  ⟨heap_new w _, World.ownsRow_nil _ _ _ _, by simp, Nat.le_refl _⟩

set_option maxHeartbeats 400000 in
theorem wu8_any (B p x : Nat) (v : Value) (l : List Nat) (w : World) (h : WOk w B p v l) (hx : x < 256) (hl : l.length + 8 ≤ 140737488351232) (hB : B ≤ w.heap.size) :
    Calls Tryd.prog 41 #[.pointer (some ⟨p, 0, none⟩), .int .u8 (x : Int)] w fun e w' => e = .returned (.tuple #[]) ∧ ∃ v', WPost w w' B p v v' (l ++ bigTo x 1 1) := by
  have HN : Hid (Calls Tryd.prog 78 #[.pointer (some ⟨p, 0, none⟩), .int .u64 (x : Int), .int .i64 1] w fun e w' => e = .returned (.tuple #[]) ∧ ∃ v', WPost w w' B p v v' (l ++ bigTo x 1 1)) := number_any B p x 1 v l w h (by omega) (by decide) (by omega) hB
  clear h
  go_enter Tryd.func41, Tryd.ntmps41
  go_wp2_with fail
  refine HN.out.mono ?_
  rintro e w1 ⟨rfl, v', hp⟩
  go_wp2
  go_end0
  exact ⟨rfl, v', hp⟩
set_option maxHeartbeats 400000 in
theorem wu16_any (B p x : Nat) (v : Value) (l : List Nat) (w : World) (h : WOk w B p v l) (hx : x < 65536) (hl : l.length + 8 ≤ 140737488351232) (hB : B ≤ w.heap.size) :
    Calls Tryd.prog 43 #[.pointer (some ⟨p, 0, none⟩), .int .u16 (x : Int)] w fun e w' => e = .returned (.tuple #[]) ∧ ∃ v', WPost w w' B p v v' (l ++ bigTo x 2 2) := by
  have HN : Hid (Calls Tryd.prog 78 #[.pointer (some ⟨p, 0, none⟩), .int .u64 (x : Int), .int .i64 2] w fun e w' => e = .returned (.tuple #[]) ∧ ∃ v', WPost w w' B p v v' (l ++ bigTo x 2 2)) := number_any B p x 2 v l w h (by omega) (by decide) (by omega) hB
  clear h
  go_enter Tryd.func43, Tryd.ntmps43
  go_wp2_with fail
  refine HN.out.mono ?_
  rintro e w1 ⟨rfl, v', hp⟩
  go_wp2
  go_end0
  exact ⟨rfl, v', hp⟩
set_option maxHeartbeats 400000 in
theorem wu32_any (B p x : Nat) (v : Value) (l : List Nat) (w : World) (h : WOk w B p v l) (hx : x < 4294967296) (hl : l.length + 8 ≤ 140737488351232) (hB : B ≤ w.heap.size) :
    Calls Tryd.prog 44 #[.pointer (some ⟨p, 0, none⟩), .int .u32 (x : Int)] w fun e w' => e = .returned (.tuple #[]) ∧ ∃ v', WPost w w' B p v v' (l ++ bigTo x 4 4) := by
  have HN : Hid (Calls Tryd.prog 78 #[.pointer (some ⟨p, 0, none⟩), .int .u64 (x : Int), .int .i64 4] w fun e w' => e = .returned (.tuple #[]) ∧ ∃ v', WPost w w' B p v v' (l ++ bigTo x 4 4)) := number_any B p x 4 v l w h (by omega) (by decide) (by omega) hB
  clear h
  go_enter Tryd.func44, Tryd.ntmps44
  go_wp2_with fail
  refine HN.out.mono ?_
  rintro e w1 ⟨rfl, v', hp⟩
  go_wp2
  go_end0
  exact ⟨rfl, v', hp⟩
set_option maxHeartbeats 400000 in
theorem wu64_any (B p x : Nat) (v : Value) (l : List Nat) (w : World) (h : WOk w B p v l) (hx : x < 18446744073709551616) (hl : l.length + 8 ≤ 140737488351232) (hB : B ≤ w.heap.size) :
    Calls Tryd.prog 45 #[.pointer (some ⟨p, 0, none⟩), .int .u64 (x : Int)] w fun e w' => e = .returned (.tuple #[]) ∧ ∃ v', WPost w w' B p v v' (l ++ bigTo x 8 8) := by
  have HN : Hid (Calls Tryd.prog 78 #[.pointer (some ⟨p, 0, none⟩), .int .u64 (x : Int), .int .i64 8] w fun e w' => e = .returned (.tuple #[]) ∧ ∃ v', WPost w w' B p v v' (l ++ bigTo x 8 8)) := number_any B p x 8 v l w h hx (by decide) (by omega) hB
  clear h
  go_enter Tryd.func45, Tryd.ntmps45
  go_wp2_with fail
  refine HN.out.mono ?_
  rintro e w1 ⟨rfl, v', hp⟩
  go_wp2
  go_end0
  exact ⟨rfl, v', hp⟩

set_option maxHeartbeats 1000000 in
theorem wraw_any (B p : Nat) (v : Value) (l m : List Nat) (ao : Option Addr) (cap n : Nat) (w : World) (h : WOk w B p v l) (hm : BRow w ao cap m) (HN : Hid (m.length = n)) (hl : l.length + n ≤ 140737488351232) (hB : B ≤ w.heap.size) :
    Calls Tryd.prog 47 #[.pointer (some ⟨p, 0, none⟩), .slice ao n cap] w fun e w' => e = .returned (.tuple #[]) ∧ ∃ v', WPost w w' B p v v' (l ++ m) := by
  obtain ⟨i0, hi, hz0, hz1, hz2⟩ := info_parts Tryd.info5
  have HU : Hid (Calls Tryd.prog 67 #[.pointer (some ⟨p, 0, none⟩)] w fun e w' => e = .returned (.bool true) ∧ w' = w) := usable_true p w h.c0
  have c1 := h.c1
  have HW : Hid (WOk w B p v l) := h
  have HM : Hid (BRow w ao cap m) := hm
  clear h hm
  go_enter Tryd.func47, Tryd.ntmps47
  go_wp2_with fail
  refine HU.out.mono ?_
  rintro e w1 ⟨rfl, hw⟩
  rw [hw]; clear hw
  go_wp2_with (at_builtin; refine wpList_append_two _ rfl (.tmp 10) (.tmp 11) 37 rfl B 5 i0 (.int .u8 0) 1 Tryd.underlying37 hi hz0 hz1 hz2 rfl v l.length (l.map bv) rfl HW.out.own ao n cap (m.map bv) rfl (by have := HM.out.nil'; rwa [HN.out] at this) (by rw [List.length_map]; exact HN.out) HM.out.news (bv_one m) (by unfold maxLen; omega) (by omega) hB ?_)
  intro v' w1 ho hg hf
  have HR := HW.out.grow1 (m := m) (Below.refl _ _) HM.out.lt (by rw [HN.out]; exact ho) hg hf
  obtain ⟨⟨c2, f2⟩, hp⟩ := HR
  obtain ⟨ao2, cp2, hv2⟩ := owns_form ho
  have HP : Hid (WPost w (w1.setCell ⟨p, 1, none⟩ v') B p v v' (l ++ m)) := hp
  clear hp ho hg hf
  subst hv2
  go_wp2
  go_end0
  exact ⟨rfl, _, HP.out⟩
end Go.Proofs.YtpkobgnbjmefnabDoor
