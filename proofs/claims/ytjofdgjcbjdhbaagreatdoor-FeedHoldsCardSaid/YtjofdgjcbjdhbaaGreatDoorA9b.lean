/- WALKS OF LAYER 9, SECOND PART: theirs, all, far of the law; arch.lay, Lay, Len, Ends; the reference's Lay. By gen_a9b.py. -/
import Derived.Test.YtjofdgjcbjdhbaaGreatDoorGe1
import Derived.Test.YtjofdgjcbjdhbaaGreatDoorGb7
namespace Go.Proofs.YtjofdgjcbjdhbaaGreatDoor
open Go Go.RowKit
set_option maxHeartbeats 4000000
set_option maxRecDepth 100000
set_option linter.unusedVariables false
theorem info_mem : (Tryz.prog.info? 44).map (fun i => (i.zero, i.size, i.bytes)) = some (some (.agg #[.string ⟨#[]⟩, .int .i64 0, .int .i64 0, .int .i64 0, .int .i64 0, .int .i64 0, .string ⟨#[]⟩, .slice none 0 0]), 8, 96) := by kernel_rfl
theorem info_int : (Tryz.prog.info? 3).map (fun i => (i.zero, i.size, i.bytes)) = some (some (.int .i64 0), 1, 8) := by kernel_rfl
theorem mem_one (p l : ByteArray) (k m u g t : Int) (A : Option Addr) (n c : Nat) : ∀ u8 ∈ [.string p, .int .i64 k, .int .i64 m, .int .i64 u, .int .i64 g, .int .i64 t, .string l, .slice A n c], (u8 : Value).oneCell' = true := c8_one ⟨p, l, k, m, u, g, t, A, n, c, [], 0⟩
theorem mem_news (w : World) (e : TypeId) (p l : ByteArray) (k m u g t : Int) (A : Option Addr) (n c : Nat) : ∀ (j : Nat) u8, [.string p, .int .i64 k, .int .i64 m, .int .i64 u, .int .i64 g, .int .i64 t, .string l, .slice A n c][j]? = some u8 → (w.alloc (.cells #[.string p, .int .i64 k, .int .i64 m, .int .i64 u, .int .i64 g, .int .i64 t, .string l, .slice A n c] e)).cell? ((⟨w.heap.size, 0, none⟩ : Addr).add j) = some u8 := news_of w e [.string p, .int .i64 k, .int .i64 m, .int .i64 u, .int .i64 g, .int .i64 t, .string l, .slice A n c]
/-- One member more on a row. -/
theorem c8_snoc {its : List It} {j : Nat} {x : It} (h : its.take (j + 1) = its.take j ++ [x]) : (its.take (j + 1)).flatMap c8 = (its.take j).flatMap c8 ++ c8 x := by
  rw [h, List.flatMap_append]
  simp
theorem owns_block {w : World} {B size n : Nat} {e : TypeId} {v : Value} {xs : List Value} (h : w.ownsRow B e size v n xs) {k : Nat} (hk : v.ownBlock = some k) : ∃ cs, w.heap[k]? = some (.cells cs e (0, 0)) := by
  rcases h.2 with ⟨rfl, _⟩ | ⟨g, cap, cur, rfl, _, hg, _⟩
  · simp [Value.ownBlock] at hk
  · obtain rfl : g = k := by simpa [Value.ownBlock] using hk
    exact ⟨cur, hg⟩
/-- Rows of two types lie apart. -/
theorem owns_apart {w : World} {B B' size size' n n' : Nat} {e e' : TypeId} {v v' : Value} {xs ys : List Value} (h : w.ownsRow B e size v n xs) (h2 : w.ownsRow B' e' size' v' n' ys) (hne : e ≠ e') {k : Nat} (hk : v.ownBlock = some k) : v'.ownBlock ≠ some k := fun hk' => by
  obtain ⟨c1, h1⟩ := owns_block h hk
  obtain ⟨c2, h3⟩ := owns_block h2 hk'
  rw [h1] at h3
  cases h3
  exact hne rfl
theorem owns_keep {w w' : World} {B size n : Nat} {e : TypeId} {v : Value} {xs : List Value} (h : w.ownsRow B e size v n xs) (hk : ∀ k, v.ownBlock = some k → w'.heap[k]? = w.heap[k]?) : w'.ownsRow B e size v n xs := by
  refine ⟨h.1, ?_⟩
  rcases h.2 with hl | ⟨g, cap, cur, rfl, hbg, hg, h1, h2, h3, h4⟩
  · exact .inl hl
  · exact .inr ⟨g, cap, cur, rfl, hbg, (hk g rfl).trans hg, h1, h2, h3, h4⟩
theorem owns_other {w w' : World} {B B' size size' n n' : Nat} {e e' : TypeId} {v v' : Value} {xs ys : List Value} (h : w.ownsRow B e size v n xs) (h2 : w.ownsRow B' e' size' v' n' ys) (hne : e ≠ e') (hg : w.grownBy w' v'.ownBlock) : w'.ownsRow B e size v n xs :=
  owns_keep h fun k hk => hg.block k (World.ownsRow.lt h k hk).2 (owns_apart h h2 hne hk).symm
def nums (l : List Nat) : List Value := l.map fun z => .int .i64 (z : Nat)
theorem nums_snoc (l : List Nat) (z : Nat) : nums (l ++ [z]) = nums l ++ [.int .i64 (z : Int)] := by unfold nums; rw [List.map_append]; rfl
theorem num_one (z : Int) : ∀ u ∈ [Value.int .i64 z], u.oneCell' = true := by
  intro u hu
  obtain rfl : u = .int .i64 z := by simpa using hu
  rfl
theorem num_news (w : World) (e : TypeId) (z : Int) : ∀ (j : Nat) u, [Value.int .i64 z][j]? = some u → (w.alloc (.cells #[.int .i64 z] e)).cell? ((⟨w.heap.size, 0, none⟩ : Addr).add j) = some u := news_of w e [.int .i64 z]
theorem theirs_any9 (p l : ByteArray) (k m u g t : Int) (A : Option Addr) (n c : Nat) (w : World) :
    Calls Tryz.prog 17 #[.agg #[.string p, .int .i64 k, .int .i64 m, .int .i64 u, .int .i64 g, .int .i64 t, .string l, .slice A n c]] w fun e w' => e = .returned (.agg #[.string p, .int .i64 k, .int .i64 m, .int .i64 u, .int .i64 g, .int .i64 t, .string l, .slice A n c]) ∧ Below w.heap.size w w' := by
  go_enter Tryz.func17, Tryz.ntmps17
  go_wp2
  refine bodyPost_ret (v := .agg #[.string p, .int .i64 k, .int .i64 m, .int .i64 u, .int .i64 g, .int .i64 t, .string l, .slice A n c]) (by simp [results, Tryz.f17, go_sem]) rfl ⟨rfl, ?_⟩
  exact ((Below.refl _ _).alloc (Nat.le_refl _) _).alloc (by simp) _
theorem all_any9 (B : Option Addr) (nl cl : Nat) (its : List It) (w : World) (hl : ML w w.heap.size B nl its) (hn : nl ≤ 100000) :
    Calls Tryz.prog 10 #[.slice B nl cl] w fun e w' => ∃ v, e = .returned v ∧ MO w' w.heap.size 44 v its ∧ Below w.heap.size w w' := by
  obtain ⟨i0, hi, hz0, hz1, hz2⟩ := info_parts info_mem
  have hll := hl.len
  have THE := Lib.hid @theirs_any9
  go_enter Tryz.func10, Tryz.ntmps10
  go_wp2
  go_loopw [3, 8] (fun v i wr => ∃ j : Nat, j ≤ nl ∧ i = .int .i64 j ∧ Hid (wr.ownsRow w.heap.size 44 8 v j ((its.take j).flatMap c8)) ∧ Below w.heap.size w wr) (fun _ i _ => nl - (intOf i).toNat)
  case atStart => exact ⟨0, by omega, rfl, World.ownsRow_nil _ _ _ _, Below.refl _ _⟩
  case round =>
    obtain ⟨j, hj, rfl, HO, hb⟩ := hrel
    by_cases hlt : j < nl
    · have hlt' : (j : Int) < nl := by omega
      obtain ⟨b, o, p, l, k, m, u, g, t, A, n, c, xs, z, rfl, hbl, hjl, q0, q1, q2, q3, q4, q5, q6, q7, hrb, hnc, hcm⟩ := (hl.below hb).at_ hlt
      have HS := Lib.hid (c8_snoc (Rc.take_next hjl))
      clear hjl hrb hnc hcm
      obtain ⟨Au, cu, rfl, hcu⟩ := owns_slice HO.out
      generalize (its.take j).flatMap c8 = XS at *
      go_wp2_with (first
        | (go_at_call 17; (with_reducible refine (THE.out p l k m u g t A n c _).mono ?_); rintro e w2 ⟨rfl, hb2⟩; have HB2 := Lib.hid ((hb.alloc hb.size (.cells #[.string p, .int .i64 k, .int .i64 m, .int .i64 u, .int .i64 g, .int .i64 t, .string l, .slice A n c] 50)).trans (hb2.mono (by have := hb.size; simp; omega))); have HO2 := Lib.hid (owns_below (owns_below (owns_below HO.out (Below.alloc (Below.refl _ _) (Nat.le_refl _) _)) hb2) (Below.alloc (Below.refl _ _) (Nat.le_refl _) (.cells #[.string p, .int .i64 k, .int .i64 m, .int .i64 u, .int .i64 g, .int .i64 t, .string l, .slice A n c] 44))); have NEWS := Lib.hid (mem_news w2 44 p l k m u g t A n c); have SZ2 := Lib.hid HB2.out.size; clear hb2)
        | (at_builtin; refine wpList_append_own _ rfl _ _ 29 rfl w.heap.size 44 i0 (.agg #[.string ⟨#[]⟩, .int .i64 0, .int .i64 0, .int .i64 0, .int .i64 0, .int .i64 0, .string ⟨#[]⟩, .slice none 0 0]) 8 96 Tryz.underlying29 hi hz0 hz1 hz2 rfl (by decide) (.slice Au j cu) j XS rfl HO2.out ⟨w2.heap.size, 0, none⟩ 1 1 [.string p, .int .i64 k, .int .i64 m, .int .i64 u, .int .i64 g, .int .i64 t, .string l, .slice A n c] rfl rfl NEWS.out (mem_one p l k m u g t A n c) (by unfold maxLen; omega) (by omega) (by have := SZ2.out; simp; omega) ?_; intro v3 w3 hown3 hgrow3 hnil3; have HO3 := Lib.hid hown3; have HB3 := Lib.hid (below_app6 (HB2.out.alloc HB2.out.size _) (Nat.le_refl _) HO2.out hgrow3); clear hown3 hgrow3 hnil3))
      go_roundw
      case rel => exact ⟨j + 1, by omega, by go_num, by show World.ownsRow _ _ _ _ _ _ _; rw [HS.out]; exact HO3.out, HB3.out⟩
      case measure => simp [intOf]; omega
    · obtain rfl : j = nl := by omega
      have HR := Lib.hid HO.out
      rw [List.take_of_length_le (by omega), ← hll] at HR
      have HD := Lib.hid ((hl.2.below hb).more hb.size)
      have hlt' : ¬ (j : Int) < j := by omega
      go_wp2
      go_ret
      exact ⟨_, rfl, ⟨HR.out, HD.out⟩, hb⟩
/-- Is there too much? -/
def far9 (its : List It) : Bool := (its.take 70).any (fun x => farM x.p x.l x.n) || (decide (12 < its.length) && decide (its.length ≤ 64) || decide (70 < its.length))
theorem far9_no {its : List It} (h : far9 its = false) : (its.length ≤ 12 ∨ 64 < its.length) ∧ its.length ≤ 70 ∧ ∀ x ∈ its, x.p.size ≤ 600 ∧ x.l.size ≤ 600 ∧ x.n ≤ 5000 := by
  unfold far9 at h
  rw [Bool.or_eq_false_iff, Bool.or_eq_false_iff] at h
  obtain ⟨h1, h2, h3⟩ := h
  have h3' : its.length ≤ 70 := by have := of_decide_eq_false h3; omega
  refine ⟨?_, h3', fun x hx => ?_⟩
  · rw [Bool.and_eq_false_iff] at h2
    rcases h2 with h | h
    · have := of_decide_eq_false h; omega
    · have := of_decide_eq_false h; omega
  · rw [List.take_of_length_le h3', List.any_eq_false] at h1
    have := h1 x hx
    simp only [farM, Bool.or_eq_true, decide_eq_true_eq, not_or] at this
    omega
theorem far_any9 (B : Option Addr) (nl cl : Nat) (its : List It) (w : World) (hl : ML w w.heap.size B nl its) (hc : nl ≤ cl) (hc2 : cl ≤ maxLen) :
    Calls Tryz.prog 7 #[.slice B nl cl] w fun e w' => e = .returned (.bool (far9 its)) ∧ Below w.heap.size w w' := by
  have hll := hl.len
  unfold maxLen at hc2
  obtain ⟨mm, hmm⟩ : ∃ mm : Nat, mm = min nl 70 := ⟨_, rfl⟩
  have hmi : min (nl : Int) 70 = (mm : Int) := by omega
  have hmn : mm ≤ nl := by omega
  have hmc : mm ≤ cl := by omega
  go_enter Tryz.func7, Tryz.ntmps7
  go_wp2
  go_loopw [11] (fun i wr => ∃ j : Nat, j ≤ mm ∧ i = .int .i64 j ∧ Hid ((its.take j).any (fun x => farM x.p x.l x.n) = false) ∧ Below w.heap.size w wr) (fun i _ => mm - (intOf i).toNat)
  case atStart => exact ⟨0, by omega, rfl, rfl, Below.refl _ _⟩
  case round =>
    obtain ⟨j, hj, rfl, HF, hb⟩ := hrel
    by_cases hlt : j < mm
    · have hlt' : (j : Int) < mm := by omega
      obtain ⟨b, o, p, l, k, m, u, g, t, A, n, c, xs, z, rfl, hbl, hjl, q0, q1, q2, q3, q4, q5, q6, q7, hrb, hnc, hcm⟩ := (hl.below hb).at_ (show j < nl by omega)
      have HT := Lib.hid (Rc.take_next hjl)
      clear hjl hrb hnc hcm
      have hb2 := Lib.hid (hb.alloc hb.size (.cells #[.string p, .int .i64 k, .int .i64 m, .int .i64 u, .int .i64 g, .int .i64 t, .string l, .slice A n c] 50))
      have hfar : farM p l n = true → far9 its = true := fun h => by
        unfold far9
        have : (its.take 70).any (fun x => farM x.p x.l x.n) = true := by
          rw [List.any_eq_true]
          refine ⟨⟨p, l, k, m, u, g, t, A, n, c, xs, z⟩, ?_, h⟩
          have h1 : (⟨p, l, k, m, u, g, t, A, n, c, xs, z⟩ : It) ∈ its.take (j + 1) := by rw [HT.out]; simp
          exact List.take_subset_take_left _ (show j + 1 ≤ 70 by omega) h1
        rw [this]; rfl
      have HFAR := Lib.hid hfar; clear hfar
      by_cases h1 : 600 < p.size
      · have h1' : (600 : Int) < p.size := by omega
        have E := Lib.hid (HFAR.out (by simp [farM, h1]))
        go_wp2
        go_ret
        exact ⟨ret_bool (by rw [E.out]), hb2.out⟩
      · have h1' : ¬ (600 : Int) < p.size := by omega
        by_cases h2 : 600 < l.size
        · have h2' : (600 : Int) < l.size := by omega
          have E := Lib.hid (HFAR.out (by simp [farM, h2]))
          go_wp2
          go_ret
          exact ⟨ret_bool (by rw [E.out]), hb2.out⟩
        · have h2' : ¬ (600 : Int) < l.size := by omega
          by_cases h3 : 5000 < n
          · have h3' : (5000 : Int) < n := by omega
            have E := Lib.hid (HFAR.out (by simp [farM, h3]))
            go_wp2
            go_ret
            exact ⟨ret_bool (by rw [E.out]), hb2.out⟩
          · have h3' : ¬ (5000 : Int) < n := by omega
            have HX := Lib.hid (show (its.take (j + 1)).any (fun x => farM x.p x.l x.n) = false by rw [HT.out, List.any_append, HF.out]; simp [farM]; omega)
            go_wp2
            go_roundw
            case rel => exact ⟨j + 1, by omega, by go_num, HX.out, hb2.out⟩
            case measure => simp [intOf]; omega
    · have hjm : j = mm := by omega
      subst hjm
      have hlt' : ¬ (j : Int) < j := by omega
      have e : far9 its = (decide ((12 : Int) < nl) && decide ((nl : Int) ≤ 64) || decide ((70 : Int) < nl)) := by
        unfold far9
        have h2 : its.take 70 = its.take j := by
          by_cases h : nl ≤ 70
          · rw [List.take_of_length_le (by omega), List.take_of_length_le (by omega)]
          · rw [show j = 70 by omega]
        rw [h2, HF.out, Bool.false_or, hll]
        congr 1
        · congr 1 <;> (rw [decide_eq_decide]; omega)
        · rw [decide_eq_decide]; omega
      have E := Lib.hid e
      clear e HF
      by_cases g1 : (12 : Int) < nl
      · by_cases g2 : (nl : Int) ≤ 64
        · go_wp2
          go_ret
          exact ⟨ret_bool (by rw [E.out]; simp [g1, g2]), hb⟩
        · by_cases g3 : (70 : Int) < nl
          · go_wp2
            go_ret
            exact ⟨ret_bool (by rw [E.out]; simp [g1, g3]), hb⟩
          · go_wp2
            go_ret
            exact ⟨ret_bool (by rw [E.out]; simp [g1, g2, g3]), hb⟩
      · by_cases g3 : (70 : Int) < nl
        · omega
        · go_wp2
          go_ret
          exact ⟨ret_bool (by rw [E.out, decide_eq_false (p := (12 : Int) < nl) (by omega), decide_eq_false (p := (70 : Int) < nl) (by omega)]; rfl), hb⟩
end Go.Proofs.YtjofdgjcbjdhbaaGreatDoor
