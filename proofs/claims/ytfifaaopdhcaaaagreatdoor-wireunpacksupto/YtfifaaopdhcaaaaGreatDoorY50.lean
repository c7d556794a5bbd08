import Derived.Test.YtfifaaopdhcaaaaGreatDoorY43
import Derived.Test.YtfifaaopdhcaaaaGreatDoorY46
import Derived.Test.YtfifaaopdhcaaaaGreatDoorY47
import Derived.Test.YtfifaaopdhcaaaaGreatDoorY48
import Derived.Test.YtfifaaopdhcaaaaGreatDoorY49
import Derived.Test.YtfifaaopdhcaaaaGreatDoorY29
namespace Go.Proofs.YtfifaaopdhcaaaaGreatDoor
open Go.RowKit
set_option linter.unusedVariables false
set_option linter.unusedSimpArgs false
set_option maxRecDepth 100000
theorem full_in {l : List Nat} (a k : Nat) (h : a + k ≤ l.length) : (((l ++ List.replicate 20 0).drop a).take k) = (l.drop a).take k := by
  rw [List.drop_append_of_le_length (by omega), List.take_append_of_le_length (by rw [List.length_drop]; omega)]
theorem full_lt {l : List Nat} (hl : ∀ x ∈ l, x < 256) (a k : Nat) : valB (((l ++ List.replicate 20 0).drop a).take k) < 256 ^ k :=
  valB_bound _ a k (fun x hx => by
    rcases List.mem_append.1 hx with hx | hx
    · exact hl x hx
    · rw [List.eq_of_mem_replicate hx]; decide)
theorem take_drop3 (l : List Nat) (a b : Nat) : l.take a ++ (l.drop a).take b = l.take (a + b) := by rw [List.take_add]
theorem both_info (l : List Nat) (hl : ∀ x ∈ l, x < 256) (hs : l.length ≤ 1048576) : ∃ (k sz fl : Nat) (s : ByteArray) (mn pf mx : Nat) (d : List Nat) (er dn : Nat), d.length = dn ∧ 
    (∀ W ao cap n, BRow W ao cap l → l.length = n → Tabs W → Calls Tryz.prog 5 #[.slice ao n cap] W fun e w' => ∃ da dc, e = .returned (.tuple #[.agg #[.int .u16 (k : Int), .int .u64 (sz : Int), .int .u16 (fl : Int), .string s, .int .u32 (mn : Int), .int .u32 (pf : Int), .int .u32 (mx : Int), .slice da dn dc], .int .i64 (er : Int)]) ∧ BRow w' da dc d ∧ Below W.heap.size W w') ∧
    (∀ W ao cap n, CRow W ao cap l → l.length = n → Calls Tryz.prog 6 #[.slice ao n cap] W fun e w' => ∃ da dc, e = .returned (.tuple #[.agg #[.int .u16 (k : Int), .int .u64 (sz : Int), .int .u16 (fl : Int), .string s, .int .u32 (mn : Int), .int .u32 (pf : Int), .int .u32 (mx : Int), .slice da dn dc], .int .i64 (er : Int)]) ∧ BRow w' da dc d ∧ Below W.heap.size W w') := by
  by_cases h2 : 2 ≤ l.length
  · obtain ⟨k, hk⟩ : ∃ k, valB (l.take 2) = k := ⟨_, rfl⟩
    have hkb : k < 65536 := by rw [← hk]; have := val_lt hl 0 2 65536 (by decide); simpa using this
    have hV : rvV l 0 2 = k := by rw [rv_t (show 0 + 2 ≤ l.length by omega)]; exact hk
    have hA : raA l 0 2 = 2 := ra_t (show 0 + 2 ≤ l.length by omega)
    have hE : ndE (okR l 0 2) 0 = 0 := by rw [ok_t (show 0 + 2 ≤ l.length by omega)]; rfl
    have hk2 : bigTo k 2 2 = l.take 2 := by rw [← hk]; exact big_valU 2 _ (by rw [List.length_take]; omega) (fun x hx => hl x (List.mem_of_mem_take hx))
    by_cases k0 : k = 0
    · subst k0
      obtain ⟨sz, hsz⟩ : ∃ sz, valB (((l ++ List.replicate 20 0).drop 2).take 8) = sz := ⟨_, rfl⟩
      obtain ⟨fl, hfl⟩ : ∃ fl, valB (((l ++ List.replicate 20 0).drop 10).take 2) = fl := ⟨_, rfl⟩
      have bsz : sz < 18446744073709551616 := by rw [← hsz]; exact full_lt hl 2 8
      have bfl : fl < 65536 := by rw [← hfl]; exact full_lt hl 10 2
      have hP : ∀ V, Calls Tryz.prog 41 #[.agg #[.int .u16 0, .int .u64 (sz : Int), .int .u16 (fl : Int), .string ⟨#[]⟩, .int .u32 0, .int .u32 0, .int .u32 0, .slice none 0 0]] V fun e w' => Pk V (inL 0 sz fl ⟨#[]⟩ 0 0 0 []) 0 e w' := fun V => rInfo_0 0 sz fl ⟨#[]⟩ 0 0 0 none 0 0 [] V (by decide) bsz bfl (by decide) (by decide) (by decide) (by decide) (brow_nil' _) rfl (by decide) rfl rfl
      have hLL : (inL 0 sz fl ⟨#[]⟩ 0 0 0 []).length = 12 := by simp [inL, bigTo_length]
      by_cases h12 : l.length = 12
      · have e1 : bigTo sz 8 8 = (l.drop 2).take 8 := by rw [← hsz, full_in 2 8 (by omega)]; exact big_valU 8 _ (by rw [List.length_take, List.length_drop]; omega) (fun x hx => hl x (List.mem_of_mem_drop (List.mem_of_mem_take hx)))
        have e2 : bigTo fl 2 2 = (l.drop 10).take 2 := by rw [← hfl, full_in 10 2 (by omega)]; exact big_valU 2 _ (by rw [List.length_take, List.length_drop]; omega) (fun x hx => hl x (List.mem_of_mem_drop (List.mem_of_mem_take hx)))
        have hL : inL 0 sz fl ⟨#[]⟩ 0 0 0 [] = l := by
          simp only [inL, if_true, List.nil_append]
          rw [hk2, e1, e2, take_drop3, take_drop3, List.take_of_length_le (by omega)]
        refine ⟨0, sz, fl, ⟨#[]⟩, 0, 0, 0, [], 0, 0, rfl, fun W ao cap n h hn hT => ?_, fun W ao cap n h hn => ?_⟩
        · have h1 := unpackInfo_0ok ao cap n l W h hn 0 2 0 ⟨hV, hA, hE⟩ sz 10 0 ⟨by rw [rv_t (show 2 + 8 ≤ l.length by omega), ← hsz, full_in 2 8 (by omega)], ra_t (show 2 + 8 ≤ l.length by omega), by rw [ok_t (show 2 + 8 ≤ l.length by omega)]; rfl⟩ fl 12 0 ⟨by rw [rv_t (show 10 + 2 ≤ l.length by omega), ← hfl, full_in 10 2 (by omega)], ra_t (show 10 + 2 ≤ l.length by omega), by rw [ok_t (show 10 + 2 ≤ l.length by omega)]; rfl⟩ rfl (by rw [decide_eq_true (by omega)]; rfl)
          refine Calls.mono h1 ?_
          rintro e w' ⟨rfl, hb⟩
          exact ⟨none, 0, rfl, brow_nil' _, hb⟩
        · obtain ⟨b, off, rfl⟩ := h.some (by omega)
          refine Calls.mono (rInfoU0_ok b off cap n l W h hn (by omega) (by omega) hk sz hsz bsz fl hfl bfl _ (show _ ≤ _ by rw [hLL]; decide) (fun V _ => hP V) (by rw [hL]; simp)) ?_
          rintro e w' ⟨rfl, hb⟩
          exact ⟨none, 0, rfl, brow_nil' _, hb⟩
      · refine ⟨0, 0, 0, ⟨#[]⟩, 0, 0, 0, [], 81, 0, rfl, fun W ao cap n h hn hT => ?_, fun W ao cap n h hn => ?_⟩
        · refine Calls.mono (unpackInfo_0no ao cap n l W h hn 0 2 0 ⟨hV, hA, hE⟩ _ _ _ ⟨rfl, rfl, rfl⟩ _ _ _ ⟨rfl, rfl, rfl⟩ rfl ?_) ?_
          · rcases Nat.lt_or_ge l.length 10 with h9 | h9
            · rw [ok_f (show l.length < 2 + 8 by omega), nd_f0, nd_81, nd_81]
            · rw [ra_t (show 2 + 8 ≤ l.length by omega), ok_t (show 2 + 8 ≤ l.length by omega)]
              rcases Nat.lt_or_ge l.length 12 with h8 | h8
              · rw [ok_f (show l.length < 2 + 8 + 2 by omega)]
                rw [show ndE false (ndE true 0) = 81 from rfl, nd_81]
              · rw [ra_t (show 2 + 8 + 2 ≤ l.length by omega), ok_t (show 2 + 8 + 2 ≤ l.length by omega), decide_eq_false (by omega)]; rfl
          · rintro e w' ⟨rfl, hb⟩
            exact ⟨none, 0, rfl, brow_nil' _, hb⟩
        · obtain ⟨b, off, rfl⟩ := h.some (by omega)
          refine Calls.mono (rInfoU0_no b off cap n l W h hn (by omega) (by omega) hk sz hsz bsz fl hfl bfl _ (show _ ≤ _ by rw [hLL]; decide) (fun V _ => hP V) (decide_eq_false (fun e => by rw [e] at hLL; omega))) ?_
          rintro e w' ⟨rfl, hb⟩
          exact ⟨none, 0, rfl, brow_nil' _, hb⟩
    · by_cases k3 : k = 3
      · subst k3
        obtain ⟨mn, hmn⟩ : ∃ mn, valB (((l ++ List.replicate 20 0).drop 2).take 4) = mn := ⟨_, rfl⟩
        obtain ⟨pf, hpf⟩ : ∃ pf, valB (((l ++ List.replicate 20 0).drop 6).take 4) = pf := ⟨_, rfl⟩
        obtain ⟨mx, hmx⟩ : ∃ mx, valB (((l ++ List.replicate 20 0).drop 10).take 4) = mx := ⟨_, rfl⟩
        have bmn : mn < 4294967296 := by rw [← hmn]; exact full_lt hl 2 4
        have bpf : pf < 4294967296 := by rw [← hpf]; exact full_lt hl 6 4
        have bmx : mx < 4294967296 := by rw [← hmx]; exact full_lt hl 10 4
        have hP : ∀ V, Calls Tryz.prog 41 #[.agg #[.int .u16 3, .int .u64 0, .int .u16 0, .string ⟨#[]⟩, .int .u32 (mn : Int), .int .u32 (pf : Int), .int .u32 (mx : Int), .slice none 0 0]] V fun e w' => Pk V (inL 3 0 0 ⟨#[]⟩ mn pf mx []) 0 e w' := fun V => rInfo_3 3 0 0 ⟨#[]⟩ mn pf mx none 0 0 [] V (by decide) (by decide) (by decide) (by decide) bmn bpf bmx (brow_nil' _) rfl (by decide) rfl rfl
        have hLL : (inL 3 0 0 ⟨#[]⟩ mn pf mx []).length = 14 := by simp [inL, bigTo_length]
        by_cases h12 : l.length = 14
        · have e1 : bigTo mn 4 4 = (l.drop 2).take 4 := by rw [← hmn, full_in 2 4 (by omega)]; exact big_valU 4 _ (by rw [List.length_take, List.length_drop]; omega) (fun x hx => hl x (List.mem_of_mem_drop (List.mem_of_mem_take hx)))
          have e2 : bigTo pf 4 4 = (l.drop 6).take 4 := by rw [← hpf, full_in 6 4 (by omega)]; exact big_valU 4 _ (by rw [List.length_take, List.length_drop]; omega) (fun x hx => hl x (List.mem_of_mem_drop (List.mem_of_mem_take hx)))
          have e3 : bigTo mx 4 4 = (l.drop 10).take 4 := by rw [← hmx, full_in 10 4 (by omega)]; exact big_valU 4 _ (by rw [List.length_take, List.length_drop]; omega) (fun x hx => hl x (List.mem_of_mem_drop (List.mem_of_mem_take hx)))
          have hL : inL 3 0 0 ⟨#[]⟩ mn pf mx [] = l := by
            have : inL 3 0 0 ⟨#[]⟩ mn pf mx [] = bigTo 3 2 2 ++ bigTo mn 4 4 ++ bigTo pf 4 4 ++ bigTo mx 4 4 := by simp [inL]
            rw [this, hk2, e1, e2, e3, take_drop3, take_drop3, take_drop3, List.take_of_length_le (by omega)]
          refine ⟨3, 0, 0, ⟨#[]⟩, mn, pf, mx, [], 0, 0, rfl, fun W ao cap n h hn hT => ?_, fun W ao cap n h hn => ?_⟩
          · have h1 := unpackInfo_3ok ao cap n l W h hn 3 2 0 ⟨hV, hA, hE⟩ mn 6 0 ⟨by rw [rv_t (show 2 + 4 ≤ l.length by omega), ← hmn, full_in 2 4 (by omega)], ra_t (show 2 + 4 ≤ l.length by omega), by rw [ok_t (show 2 + 4 ≤ l.length by omega)]; rfl⟩ pf 10 0 ⟨by rw [rv_t (show 6 + 4 ≤ l.length by omega), ← hpf, full_in 6 4 (by omega)], ra_t (show 6 + 4 ≤ l.length by omega), by rw [ok_t (show 6 + 4 ≤ l.length by omega)]; rfl⟩ mx 14 0 ⟨by rw [rv_t (show 10 + 4 ≤ l.length by omega), ← hmx, full_in 10 4 (by omega)], ra_t (show 10 + 4 ≤ l.length by omega), by rw [ok_t (show 10 + 4 ≤ l.length by omega)]; rfl⟩ (by decide) (by decide) (by decide) rfl (by rw [decide_eq_true (by omega)]; rfl)
            refine Calls.mono h1 ?_
            rintro e w' ⟨rfl, hb⟩
            exact ⟨none, 0, rfl, brow_nil' _, hb⟩
          · obtain ⟨b, off, rfl⟩ := h.some (by omega)
            refine Calls.mono (rInfoU3_ok b off cap n l W h hn (by omega) (by omega) hk mn hmn bmn pf hpf bpf mx hmx bmx _ (show _ ≤ _ by rw [hLL]; decide) (fun V _ => hP V) (by rw [hL]; simp)) ?_
            rintro e w' ⟨rfl, hb⟩
            exact ⟨none, 0, rfl, brow_nil' _, hb⟩
        · refine ⟨0, 0, 0, ⟨#[]⟩, 0, 0, 0, [], 81, 0, rfl, fun W ao cap n h hn hT => ?_, fun W ao cap n h hn => ?_⟩
          · refine Calls.mono (unpackInfo_3no ao cap n l W h hn 3 2 0 ⟨hV, hA, hE⟩ _ _ _ ⟨rfl, rfl, rfl⟩ _ _ _ ⟨rfl, rfl, rfl⟩ _ _ _ ⟨rfl, rfl, rfl⟩ (by decide) (by decide) (by decide) rfl ?_) ?_
            · rcases Nat.lt_or_ge l.length 6 with h9 | h9
              · rw [ok_f (show l.length < 2 + 4 by omega), nd_f0, nd_81, nd_81, nd_81]
              · rw [ra_t (show 2 + 4 ≤ l.length by omega), ok_t (show 2 + 4 ≤ l.length by omega)]
                rcases Nat.lt_or_ge l.length 10 with h8 | h8
                · rw [ok_f (show l.length < 2 + 4 + 4 by omega)]
                  rw [show ndE false (ndE true 0) = 81 from rfl, nd_81, nd_81]
                · rw [ra_t (show 2 + 4 + 4 ≤ l.length by omega), ok_t (show 2 + 4 + 4 ≤ l.length by omega)]
                  rcases Nat.lt_or_ge l.length 14 with h7 | h7
                  · rw [ok_f (show l.length < 2 + 4 + 4 + 4 by omega)]
                    rw [show ndE false (ndE true (ndE true 0)) = 81 from rfl, nd_81]
                  · rw [ra_t (show 2 + 4 + 4 + 4 ≤ l.length by omega), ok_t (show 2 + 4 + 4 + 4 ≤ l.length by omega), decide_eq_false (by omega)]; rfl
            · rintro e w' ⟨rfl, hb⟩
              exact ⟨none, 0, rfl, brow_nil' _, hb⟩
          · obtain ⟨b, off, rfl⟩ := h.some (by omega)
            refine Calls.mono (rInfoU3_no b off cap n l W h hn (by omega) (by omega) hk mn hmn bmn pf hpf bpf mx hmx bmx _ (show _ ≤ _ by rw [hLL]; decide) (fun V _ => hP V) (decide_eq_false (fun e => by rw [e] at hLL; omega))) ?_
            rintro e w' ⟨rfl, hb⟩
            exact ⟨none, 0, rfl, brow_nil' _, hb⟩
      · have hr2 : rrL l 2 (l.length - 2) = l.drop 2 := rr_rest h2
        have ha2 : raA l 2 (l.length - 2) = l.length := by rw [ra_t (show 2 + (l.length - 2) ≤ l.length by omega)]; omega
        have ho2 : okR l 2 (l.length - 2) = true := ok_t (by omega)
        have hld : l.take 2 ++ l.drop 2 = l := List.take_append_drop 2 l
        have hdb : ∀ x ∈ l.drop 2, x < 256 := fun x hx => hl x (List.mem_of_mem_drop hx)
        by_cases k1 : k = 1
        · subst k1
          cases ht : tx (bstr (l.drop 2)) with
          | true =>
            have hL : inL 1 0 0 (bstr (l.drop 2)) 0 0 0 [] = l := by
              have : inL 1 0 0 (bstr (l.drop 2)) 0 0 0 [] = bigTo 1 2 2 ++ sbytes (bstr (l.drop 2)) := by simp [inL]
              rw [this, sbytes_bstr _ hdb, hk2, hld]
            have hP : ∀ V, Calls Tryz.prog 41 #[.agg #[.int .u16 1, .int .u64 0, .int .u16 0, .string (bstr (l.drop 2)), .int .u32 0, .int .u32 0, .int .u32 0, .slice none 0 0]] V fun e w' => Pk V (inL 1 0 0 (bstr (l.drop 2)) 0 0 0 []) 0 e w' := fun V => rInfo_1 1 0 0 (bstr (l.drop 2)) 0 0 0 none 0 0 [] V (by decide) (by decide) (by decide) (by rw [bstr_size, List.length_drop]; omega) (by decide) (by decide) (by decide) (brow_nil' _) rfl (by decide) (by simp [ifB, exB, blB, ht]) rfl
            refine ⟨1, 0, 0, bstr (l.drop 2), 0, 0, 0, [], 0, 0, rfl, fun W ao cap n h hn hT => ?_, fun W ao cap n h hn => ?_⟩
            · refine Calls.mono (unpackInfo_1ok ao cap n l W h hn hT 1 2 0 (l.length - 2) l.length 0 ⟨hV, hA, hE⟩ rfl (bstr (l.drop 2)) ⟨by rw [hr2], ha2, by rw [ho2, ht]; rfl⟩ (by decide) rfl (by rw [decide_eq_true rfl]; rfl)) ?_
              rintro e w' ⟨rfl, hb⟩
              exact ⟨none, 0, rfl, brow_nil' _, hb⟩
            · obtain ⟨b, off, rfl⟩ := h.some (by omega)
              refine Calls.mono (rInfoU1_ok b off cap n l W h hn (by omega) (by omega) hk _ rfl _ (show _ ≤ _ by rw [hL]; exact hs) (fun V _ => hP V) (by rw [hL]; simp)) ?_
              rintro e w' ⟨rfl, hb⟩
              exact ⟨none, 0, rfl, brow_nil' _, hb⟩
          | false =>
            have hP : ∀ V, Calls Tryz.prog 41 #[.agg #[.int .u16 1, .int .u64 0, .int .u16 0, .string (bstr (l.drop 2)), .int .u32 0, .int .u32 0, .int .u32 0, .slice none 0 0]] V fun e w' => Pk V [] 81 e w' := fun V => rInfo_1n 1 0 0 (bstr (l.drop 2)) 0 0 0 none 0 0 [] V (by decide) (by decide) (by decide) (by rw [bstr_size, List.length_drop]; omega) (by decide) (by decide) (by decide) (brow_nil' _) rfl (by decide) (by simp [ifB, exB, blB, ht]) (by simp) rfl
            refine ⟨0, 0, 0, ⟨#[]⟩, 0, 0, 0, [], 81, 0, rfl, fun W ao cap n h hn hT => ?_, fun W ao cap n h hn => ?_⟩
            · refine Calls.mono (unpackInfo_1no ao cap n l W h hn hT 1 2 0 (l.length - 2) l.length 81 ⟨hV, hA, hE⟩ rfl (bstr (l.drop 2)) ⟨by rw [hr2], ha2, by rw [ho2, ht]; rfl⟩ (by decide) rfl (nd_81 _)) ?_
              rintro e w' ⟨rfl, hb⟩
              exact ⟨none, 0, rfl, brow_nil' _, hb⟩
            · obtain ⟨b, off, rfl⟩ := h.some (by omega)
              refine Calls.mono (rInfoU1_no b off cap n l W h hn (by omega) (by omega) hk _ rfl [] (show _ ≤ _ by decide) (fun V _ => hP V)) ?_
              rintro e w' ⟨rfl, hb⟩
              exact ⟨none, 0, rfl, brow_nil' _, hb⟩
        · by_cases k2 : k = 2
          · subst k2
            cases ht : tx (bstr (l.drop 2)) with
            | true =>
              have hL : inL 2 0 0 (bstr (l.drop 2)) 0 0 0 [] = l := by
                have : inL 2 0 0 (bstr (l.drop 2)) 0 0 0 [] = bigTo 2 2 2 ++ sbytes (bstr (l.drop 2)) := by simp [inL]
                rw [this, sbytes_bstr _ hdb, hk2, hld]
              have hP : ∀ V, Calls Tryz.prog 41 #[.agg #[.int .u16 2, .int .u64 0, .int .u16 0, .string (bstr (l.drop 2)), .int .u32 0, .int .u32 0, .int .u32 0, .slice none 0 0]] V fun e w' => Pk V (inL 2 0 0 (bstr (l.drop 2)) 0 0 0 []) 0 e w' := fun V => rInfo_2 2 0 0 (bstr (l.drop 2)) 0 0 0 none 0 0 [] V (by decide) (by decide) (by decide) (by rw [bstr_size, List.length_drop]; omega) (by decide) (by decide) (by decide) (brow_nil' _) rfl (by decide) (by simp [ifB, exB, blB, ht]) rfl
              refine ⟨2, 0, 0, bstr (l.drop 2), 0, 0, 0, [], 0, 0, rfl, fun W ao cap n h hn hT => ?_, fun W ao cap n h hn => ?_⟩
              · refine Calls.mono (unpackInfo_2ok ao cap n l W h hn hT 2 2 0 (l.length - 2) l.length 0 ⟨hV, hA, hE⟩ rfl (bstr (l.drop 2)) ⟨by rw [hr2], ha2, by rw [ho2, ht]; rfl⟩ (by decide) (by decide) rfl (by rw [decide_eq_true rfl]; rfl)) ?_
                rintro e w' ⟨rfl, hb⟩
                exact ⟨none, 0, rfl, brow_nil' _, hb⟩
              · obtain ⟨b, off, rfl⟩ := h.some (by omega)
                refine Calls.mono (rInfoU2_ok b off cap n l W h hn (by omega) (by omega) hk _ rfl _ (show _ ≤ _ by rw [hL]; exact hs) (fun V _ => hP V) (by rw [hL]; simp)) ?_
                rintro e w' ⟨rfl, hb⟩
                exact ⟨none, 0, rfl, brow_nil' _, hb⟩
            | false =>
              have hP : ∀ V, Calls Tryz.prog 41 #[.agg #[.int .u16 2, .int .u64 0, .int .u16 0, .string (bstr (l.drop 2)), .int .u32 0, .int .u32 0, .int .u32 0, .slice none 0 0]] V fun e w' => Pk V [] 81 e w' := fun V => rInfo_2n 2 0 0 (bstr (l.drop 2)) 0 0 0 none 0 0 [] V (by decide) (by decide) (by decide) (by rw [bstr_size, List.length_drop]; omega) (by decide) (by decide) (by decide) (brow_nil' _) rfl (by decide) (by simp [ifB, exB, blB, ht]) (by simp) rfl
              refine ⟨0, 0, 0, ⟨#[]⟩, 0, 0, 0, [], 81, 0, rfl, fun W ao cap n h hn hT => ?_, fun W ao cap n h hn => ?_⟩
              · refine Calls.mono (unpackInfo_2no ao cap n l W h hn hT 2 2 0 (l.length - 2) l.length 81 ⟨hV, hA, hE⟩ rfl (bstr (l.drop 2)) ⟨by rw [hr2], ha2, by rw [ho2, ht]; rfl⟩ (by decide) (by decide) rfl (nd_81 _)) ?_
                rintro e w' ⟨rfl, hb⟩
                exact ⟨none, 0, rfl, brow_nil' _, hb⟩
              · obtain ⟨b, off, rfl⟩ := h.some (by omega)
                refine Calls.mono (rInfoU2_no b off cap n l W h hn (by omega) (by omega) hk _ rfl [] (show _ ≤ _ by decide) (fun V _ => hP V)) ?_
                rintro e w' ⟨rfl, hb⟩
                exact ⟨none, 0, rfl, brow_nil' _, hb⟩
          · have hL : inL k 0 0 ⟨#[]⟩ 0 0 0 (l.drop 2) = l := by
              have : inL k 0 0 ⟨#[]⟩ 0 0 0 (l.drop 2) = bigTo k 2 2 ++ l.drop 2 := by simp [inL, k0, k1, k2, k3]
              rw [this, hk2, hld]
            have hP : ∀ V da dc, BRow V da dc (l.drop 2) → Calls Tryz.prog 41 #[.agg #[.int .u16 (k : Int), .int .u64 0, .int .u16 0, .string ⟨#[]⟩, .int .u32 0, .int .u32 0, .int .u32 0, .slice da (l.length - 2) dc]] V fun e w' => Pk V (inL k 0 0 ⟨#[]⟩ 0 0 0 (l.drop 2)) 0 e w' := fun V da dc hr => rInfo_o k 0 0 ⟨#[]⟩ 0 0 0 da (l.length - 2) dc (l.drop 2) V hkb (by decide) (by decide) (by decide) (by decide) (by decide) (by decide) hr List.length_drop (by omega) (by simp [ifB, k0, k1, k2, k3]; exact ⟨rfl, rfl, rfl⟩) ⟨k0, k1, k2, k3⟩
            refine ⟨k, 0, 0, ⟨#[]⟩, 0, 0, 0, l.drop 2, 0, l.length - 2, List.length_drop, fun W ao cap n h hn hT => ?_, fun W ao cap n h hn => ?_⟩
            · refine Calls.mono (unpackInfo_ook ao cap n l W h hn hT k 2 0 (l.length - 2) l.length 0 ⟨hV, hA, hE⟩ rfl (l.drop 2) ⟨hr2, ha2, by rw [ho2]; rfl⟩ k0 k1 k2 k3 (by rw [decide_eq_true rfl]; rfl)) ?_
              rintro e w' ⟨a7, c7, n7, rfl, h7, hr⟩
              rw [List.length_drop] at h7
              subst h7
              exact ⟨a7, c7, rfl, hr.brow (by rw [List.length_drop]; omega), hr.bel⟩
            · obtain ⟨b, off, rfl⟩ := h.some (by omega)
              subst hn
              exact rInfoUo_ok b off cap _ l W h rfl hs h2 k hkb hk k0 k1 k2 k3 _ (show _ ≤ _ by rw [hL]; exact hs) (fun V _ da dc hr => hP V da dc hr) (by rw [hL]; simp)
  · refine ⟨0, 0, 0, ⟨#[]⟩, 0, 0, 0, [], 81, 0, rfl, fun W ao cap n h hn hT => ?_, fun W ao cap n h hn => ?_⟩
    · refine Calls.mono (unpackInfo_0no ao cap n l W h hn _ _ _ ⟨rfl, rfl, rfl⟩ _ _ _ ⟨rfl, rfl, rfl⟩ _ _ _ ⟨rfl, rfl, rfl⟩ ?_ ?_) ?_
      · unfold rvV; rw [ok_f (show l.length < 0 + 2 by omega)]; rfl
      · rw [ok_f (show l.length < 0 + 2 by omega), nd_f0, nd_81, nd_81, nd_81]
      · rintro e w' ⟨rfl, hb⟩
        exact ⟨none, 0, rfl, brow_nil' _, hb⟩
    · refine Calls.mono (rInfoU_short ao cap n W (by omega)) ?_
      rintro e w' ⟨rfl, hb⟩
      exact ⟨none, 0, rfl, brow_nil' _, hb⟩
end Go.Proofs.YtfifaaopdhcaaaaGreatDoor
