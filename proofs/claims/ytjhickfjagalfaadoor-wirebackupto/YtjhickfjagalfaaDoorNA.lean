import Derived.Test.YtjhickfjagalfaaDoorNM
import Derived.Test.YtjhickfjagalfaaDoorJLx
import Derived.Test.YtjhickfjagalfaaDoorJLq
import Derived.Test.YtjhickfjagalfaaDoorJLr
import Derived.Test.YtjhickfjagalfaaDoorJLs
namespace Go.Proofs.YtjhickfjagalfaaDoor
open Go.RowKit
set_option linter.unusedVariables false
set_option linter.unusedSimpArgs false
set_option maxRecDepth 100000
theorem backOpt_ok (c : Nat) (most k : Nat) (d m : List Nat) (HK : d.length = k) (hk : k ≤ 1048576) (hlt : ∀ x ∈ d, x < 256) (hc : c < 4294967296) (hm4 : most < 4294967296) (hle : k ≤ most) : DOpt c false most k k (16 + k) 0 d d m := by
  intro b off cap n w h HN
  have hmod : k % 4294967296 = k := Nat.mod_eq_of_lt (by omega)
  have hx : oL c d ++ m = (bigTo mHave 8 8 ++ (bigTo c 4 4 ++ (bigTo k 4 4 ++ (d ++ m)))) := by simp [oL, HK, hmod]
  have hn : 16 + k ≤ n := by rw [← HN, hx]; simp only [List.length_append, bigTo_length, HK]; omega
  refine Calls.mono (decOption_ok b off cap n _ most c k w h (show Hid (_ = n) from HN) (by omega) (show valB _ = _ from val_of (pre := ([] : List Nat)) (tl := (bigTo c 4 4 ++ (bigTo k 4 4 ++ (d ++ m)))) mHave 8 0 (hx.trans (by simp)) (by simp [bigTo_length]) (by decide)) (show valB _ = _ from val_of (pre := (bigTo mHave 8 8)) (tl := (bigTo k 4 4 ++ (d ++ m))) c 4 8 (hx.trans (by simp)) (by simp [bigTo_length]) (by simpa using hc)) (show valB _ = _ from val_of (pre := (bigTo mHave 8 8 ++ bigTo c 4 4)) (tl := (d ++ m)) k 4 12 (hx.trans (by simp)) (by simp [bigTo_length]) (by omega)) hc (by omega) hm4 hle (by omega) _ rfl d (tail_of (m := m) (pre := (bigTo mHave 8 8 ++ bigTo c 4 4 ++ bigTo k 4 4)) 16 (hx.trans (by simp)) (by simp [bigTo_length]) HK)) ?_
  rintro e w' ⟨ao2, cap2, rfl, ho2, hb⟩
  exact ⟨_, _, rfl, own_brow ho2 hlt HK hk, hb⟩
theorem backOpt_long (c : Nat) (most k : Nat) (d m : List Nat) (HK : d.length = k) (hk : k ≤ 1048576) (hlt : ∀ x ∈ d, x < 256) (hc : c < 4294967296) (hm4 : most < 4294967296) (hlong : most < k) : DOpt c true most k 0 16 12 d [] m := by
  intro b off cap n w h HN
  have hmod : k % 4294967296 = k := Nat.mod_eq_of_lt (by omega)
  have hx : oL c d ++ m = (bigTo mHave 8 8 ++ (bigTo c 4 4 ++ (bigTo k 4 4 ++ (d ++ m)))) := by simp [oL, HK, hmod]
  have hn : 16 + k ≤ n := by rw [← HN, hx]; simp only [List.length_append, bigTo_length, HK]; omega
  refine Calls.mono (decOption_long b off cap n _ most c k w h (show Hid (_ = n) from HN) (by omega) (show valB _ = _ from val_of (pre := ([] : List Nat)) (tl := (bigTo c 4 4 ++ (bigTo k 4 4 ++ (d ++ m)))) mHave 8 0 (hx.trans (by simp)) (by simp [bigTo_length]) (by decide)) (show valB _ = _ from val_of (pre := (bigTo mHave 8 8)) (tl := (bigTo k 4 4 ++ (d ++ m))) c 4 8 (hx.trans (by simp)) (by simp [bigTo_length]) (by simpa using hc)) (show valB _ = _ from val_of (pre := (bigTo mHave 8 8 ++ bigTo c 4 4)) (tl := (d ++ m)) k 4 12 (hx.trans (by simp)) (by simp [bigTo_length]) (by omega)) hc (by omega) hm4 hlong) ?_
  rintro e w' ⟨ao2, cap2, rfl, hr⟩
  exact ⟨_, _, rfl, row_nil_brow hr, hr.bel⟩
theorem backRep_ok (o e0 : Nat) (most k : Nat) (d m : List Nat) (HK : d.length = k) (hk : k ≤ 1048576) (hlt : ∀ x ∈ d, x < 256) (ho : o < 4294967296) (he : e0 < 4294967296) (hm4 : most < 4294967296) (hle : k ≤ most) : DRep o e0 false most k k (20 + k) 0 d d m := by
  intro b off cap n w h HN
  have hmod : k % 4294967296 = k := Nat.mod_eq_of_lt (by omega)
  have hx : rL o e0 d ++ m = (bigTo mReply 8 8 ++ (bigTo o 4 4 ++ (bigTo e0 4 4 ++ (bigTo k 4 4 ++ (d ++ m))))) := by simp [rL, HK, hmod]
  have hn : 20 + k ≤ n := by rw [← HN, hx]; simp only [List.length_append, bigTo_length, HK]; omega
  refine Calls.mono (decReply_ok b off cap n _ most o e0 k w h (show Hid (_ = n) from HN) (by omega) (show valB _ = _ from val_of (pre := ([] : List Nat)) (tl := (bigTo o 4 4 ++ (bigTo e0 4 4 ++ (bigTo k 4 4 ++ (d ++ m))))) mReply 8 0 (hx.trans (by simp)) (by simp [bigTo_length]) (by decide)) (show valB _ = _ from val_of (pre := (bigTo mReply 8 8)) (tl := (bigTo e0 4 4 ++ (bigTo k 4 4 ++ (d ++ m)))) o 4 8 (hx.trans (by simp)) (by simp [bigTo_length]) (by simpa using ho)) (show valB _ = _ from val_of (pre := (bigTo mReply 8 8 ++ bigTo o 4 4)) (tl := (bigTo k 4 4 ++ (d ++ m))) e0 4 12 (hx.trans (by simp)) (by simp [bigTo_length]) (by simpa using he)) (show valB _ = _ from val_of (pre := (bigTo mReply 8 8 ++ bigTo o 4 4 ++ bigTo e0 4 4)) (tl := (d ++ m)) k 4 16 (hx.trans (by simp)) (by simp [bigTo_length]) (by omega)) ho he (by omega) hm4 hle (by omega) _ rfl d (tail_of (m := m) (pre := (bigTo mReply 8 8 ++ bigTo o 4 4 ++ bigTo e0 4 4 ++ bigTo k 4 4)) 20 (hx.trans (by simp)) (by simp [bigTo_length]) HK)) ?_
  rintro e w' ⟨ao2, cap2, rfl, ho2, hb⟩
  exact ⟨_, _, rfl, own_brow ho2 hlt HK hk, hb⟩
theorem backRep_long (o e0 : Nat) (most k : Nat) (d m : List Nat) (HK : d.length = k) (hk : k ≤ 1048576) (hlt : ∀ x ∈ d, x < 256) (ho : o < 4294967296) (he : e0 < 4294967296) (hm4 : most < 4294967296) (hlong : most < k) : DRep o e0 false most k 0 20 12 d [] m := by
  intro b off cap n w h HN
  have hmod : k % 4294967296 = k := Nat.mod_eq_of_lt (by omega)
  have hx : rL o e0 d ++ m = (bigTo mReply 8 8 ++ (bigTo o 4 4 ++ (bigTo e0 4 4 ++ (bigTo k 4 4 ++ (d ++ m))))) := by simp [rL, HK, hmod]
  have hn : 20 + k ≤ n := by rw [← HN, hx]; simp only [List.length_append, bigTo_length, HK]; omega
  refine Calls.mono (decReply_long b off cap n _ most o e0 k w h (show Hid (_ = n) from HN) (by omega) (show valB _ = _ from val_of (pre := ([] : List Nat)) (tl := (bigTo o 4 4 ++ (bigTo e0 4 4 ++ (bigTo k 4 4 ++ (d ++ m))))) mReply 8 0 (hx.trans (by simp)) (by simp [bigTo_length]) (by decide)) (show valB _ = _ from val_of (pre := (bigTo mReply 8 8)) (tl := (bigTo e0 4 4 ++ (bigTo k 4 4 ++ (d ++ m)))) o 4 8 (hx.trans (by simp)) (by simp [bigTo_length]) (by simpa using ho)) (show valB _ = _ from val_of (pre := (bigTo mReply 8 8 ++ bigTo o 4 4)) (tl := (bigTo k 4 4 ++ (d ++ m))) e0 4 12 (hx.trans (by simp)) (by simp [bigTo_length]) (by simpa using he)) (show valB _ = _ from val_of (pre := (bigTo mReply 8 8 ++ bigTo o 4 4 ++ bigTo e0 4 4)) (tl := (d ++ m)) k 4 16 (hx.trans (by simp)) (by simp [bigTo_length]) (by omega)) ho he (by omega) hm4 hlong) ?_
  rintro e w' ⟨ao2, cap2, rfl, hr⟩
  exact ⟨_, _, rfl, row_nil_brow hr, hr.bel⟩
end Go.Proofs.YtjhickfjagalfaaDoor
