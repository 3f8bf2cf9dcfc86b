/- THE WALK OF THE LAW MembTypes. -/
import Derived.Test.YtgidcakmaabcnaaGreatDoorGe2
namespace Go.Proofs.YtgidcakmaabcnaaGreatDoor
open Go Go.RowKit
set_option maxHeartbeats 6400000
set_option maxRecDepth 100000
set_option linter.unusedVariables false
theorem typ_back {k : Int} (h : ¬ Mb.typ k = 0) : Mb.kin (Mb.typ k) = k := by
  have : k = 1 ∨ k = 2 ∨ k = 3 ∨ k = 4 := by
    unfold Mb.typ at h
    by_cases a : k = 1
    · exact .inl a
    · rw [if_neg a] at h
      by_cases b : k = 2
      · exact .inr (.inl b)
      · rw [if_neg b] at h
        by_cases c : k = 3
        · exact .inr (.inr (.inl c))
        · rw [if_neg c] at h
          by_cases d : k = 4
          · exact .inr (.inr (.inr d))
          · rw [if_neg d] at h; exact absurd rfl h
  rcases this with rfl | rfl | rfl | rfl <;> rfl
theorem kin_back {c : Int} (h : ¬ Mb.kin c = 0) : Mb.typ (Mb.kin c) = c := by
  have : c = 48 ∨ c = 49 ∨ c = 50 ∨ c = 53 := by
    unfold Mb.kin at h
    by_cases a : c = 48
    · exact .inl a
    · rw [if_neg a] at h
      by_cases b : c = 49
      · exact .inr (.inl b)
      · rw [if_neg b] at h
        by_cases e : c = 50
        · exact .inr (.inr (.inl e))
        · rw [if_neg e] at h
          by_cases d : c = 53
          · exact .inr (.inr (.inr d))
          · rw [if_neg d] at h; exact absurd rfl h
  rcases this with rfl | rfl | rfl | rfl <;> rfl
theorem types_walk8 (k c : Int) (w : World) (tb : Tab w) (k0 : -9223372036854775808 ≤ k) (k1 : k ≤ 9223372036854775807) (c0 : 0 ≤ c) (c1 : c ≤ 255) :
    Calls Tryz.prog 4 #[.int .i64 k, .int .u8 c] w fun e w' => e = .returned (.bool true) ∧ Below w.heap.size w w' := by
  have ct := fun W => mtype_any k W
  have ck := fun W => mkind_any c W
  have rt := fun W => refmtype_any k W k0 k1
  have rk := fun W => refmkind_any c W
  have bt := fun W (h : ¬ Mb.typ k = 0) => mkind_any (Mb.typ k) W
  have bk := fun W (h : ¬ Mb.kin c = 0) => mtype_any (Mb.kin c) W
  have al := fun W (tb : Tab W) => alive8_any W tb
  have RT := Lib.hid rt; have RK := Lib.hid rk; have AL := Lib.hid al; have TB := Lib.hid tb; have CT := Lib.hid ct; have CK := Lib.hid ck
  clear rt rk al tb ct ck
  by_cases ht : Mb.typ k = 0
  · by_cases hc : Mb.kin c = 0
    · rw [ht] at CT RT
      rw [hc] at CK RK
      clear bt bk ht hc k0 k1 c0 c1
      go_enter Tryz.func4, Tryz.ntmps4
      go_wp2_with (first
        | (go_at_call 18; (with_reducible refine (CT.out _).mono ?_); rintro e w1 ⟨rfl, rfl⟩)
        | (go_at_call 19; (with_reducible refine (CK.out _).mono ?_); rintro e w2 ⟨rfl, rfl⟩)
        | (go_at_call 20; (with_reducible refine (RT.out _).mono ?_); rintro e w3 ⟨rfl, hb3⟩)
        | (go_at_call 21; (with_reducible refine (RK.out _).mono ?_); rintro e w4 ⟨rfl, hb4⟩)
        | (go_at_call 8; (with_reducible refine (AL.out _ (TB.out.on (bthen hb3 hb4))).mono ?_); rintro e w5 ⟨rfl, hb5⟩))
      go_ret
      exact ⟨rfl, bthen (bthen hb3 hb4) hb5⟩
    · have hk := kin_back hc
      have bk := fun W => bk W hc
      rw [hk] at bk
      rw [ht] at CT RT
      generalize Mb.kin c = kk at *
      have h2 : (kk == 0) = false := by simp [hc]
      have BK := Lib.hid bk
      clear bt bk ht hc hk k0 k1 c0 c1
      go_enter Tryz.func4, Tryz.ntmps4
      go_wp2_with (first
        | (go_at_call 18; (with_reducible refine (CT.out _).mono ?_); rintro e w1 ⟨rfl, rfl⟩)
        | (go_at_call 18; (with_reducible refine (BK.out _).mono ?_); rintro e w1 ⟨rfl, rfl⟩)
        | (go_at_call 19; (with_reducible refine (CK.out _).mono ?_); rintro e w2 ⟨rfl, rfl⟩)
        | (go_at_call 20; (with_reducible refine (RT.out _).mono ?_); rintro e w3 ⟨rfl, hb3⟩)
        | (go_at_call 21; (with_reducible refine (RK.out _).mono ?_); rintro e w4 ⟨rfl, hb4⟩)
        | (go_at_call 8; (with_reducible refine (AL.out _ (TB.out.on (bthen hb3 hb4))).mono ?_); rintro e w5 ⟨rfl, hb5⟩))
      go_ret
      exact ⟨rfl, bthen (bthen hb3 hb4) hb5⟩
  · have hk := typ_back ht
    have bt := fun W => bt W ht
    rw [hk] at bt
    have BT := Lib.hid bt
    by_cases hc : Mb.kin c = 0
    · rw [hc] at CK RK
      generalize Mb.typ k = ty at *
      have h2 : (ty == 0) = false := by simp [ht]
      clear bt bk ht hc hk k0 k1 c0 c1
      go_enter Tryz.func4, Tryz.ntmps4
      go_wp2_with (first
        | (go_at_call 18; (with_reducible refine (CT.out _).mono ?_); rintro e w1 ⟨rfl, rfl⟩)
        | (go_at_call 19; (with_reducible refine (CK.out _).mono ?_); rintro e w2 ⟨rfl, rfl⟩)
        | (go_at_call 19; (with_reducible refine (BT.out _).mono ?_); rintro e w2 ⟨rfl, rfl⟩)
        | (go_at_call 20; (with_reducible refine (RT.out _).mono ?_); rintro e w3 ⟨rfl, hb3⟩)
        | (go_at_call 21; (with_reducible refine (RK.out _).mono ?_); rintro e w4 ⟨rfl, hb4⟩)
        | (go_at_call 8; (with_reducible refine (AL.out _ (TB.out.on (bthen hb3 hb4))).mono ?_); rintro e w5 ⟨rfl, hb5⟩))
      go_ret
      exact ⟨rfl, bthen (bthen hb3 hb4) hb5⟩
    · have hk2 := kin_back hc
      have bk := fun W => bk W hc
      rw [hk2] at bk
      generalize Mb.typ k = ty at *
      generalize Mb.kin c = kk at *
      have h2 : (ty == 0) = false := by simp [ht]
      have h3 : (kk == 0) = false := by simp [hc]
      have BK := Lib.hid bk
      clear bt bk ht hc hk hk2 k0 k1 c0 c1
      go_enter Tryz.func4, Tryz.ntmps4
      go_wp2_with (first
        | (go_at_call 18; (with_reducible refine (CT.out _).mono ?_); rintro e w1 ⟨rfl, rfl⟩)
        | (go_at_call 18; (with_reducible refine (BK.out _).mono ?_); rintro e w1 ⟨rfl, rfl⟩)
        | (go_at_call 19; (with_reducible refine (CK.out _).mono ?_); rintro e w2 ⟨rfl, rfl⟩)
        | (go_at_call 19; (with_reducible refine (BT.out _).mono ?_); rintro e w2 ⟨rfl, rfl⟩)
        | (go_at_call 20; (with_reducible refine (RT.out _).mono ?_); rintro e w3 ⟨rfl, hb3⟩)
        | (go_at_call 21; (with_reducible refine (RK.out _).mono ?_); rintro e w4 ⟨rfl, hb4⟩)
        | (go_at_call 8; (with_reducible refine (AL.out _ (TB.out.on (bthen hb3 hb4))).mono ?_); rintro e w5 ⟨rfl, hb5⟩))
      go_ret
      exact ⟨rfl, bthen (bthen hb3 hb4) hb5⟩
end Go.Proofs.YtgidcakmaabcnaaGreatDoor
