/- THE WALK OF THE LAW FrameParses. gen_l19b.py -/
import Derived.Test.YtjiafpmcibokbaaR19h
import Derived.Test.YtjiafpmcibokbaaM19e
import Derived.Test.YtjiafpmcibokbaaP19n
import Derived.Test.YtjiafpmcibokbaaP19h
namespace Go.Proofs.Ytjiafpmcibokbaa
open Go Go.RowKit
set_option maxHeartbeats 4000000
set_option maxRecDepth 100000
set_option linter.unusedVariables false
attribute [-go_sem] loadCellsFrom storeCells Instr.build
attribute [local go_sem] storeCells_one
theorem same_moved {g h : Fm.Fr} {Q : Fm.Fr} (h1 : Fm.er g = Q) (h2 : Fm.er h = Q) (A : Option Addr) (c : Nat) : Fm.same g { h with RA := A, rc := c } = true := Fm.same_er (h1.trans h2.symm)
theorem frameparses_walk (A : Option Addr) (n c : Nat) (xs : List Int) (sl : Bool) (w : World) (hb : RB w w.heap.size A n xs) (hy : Byt xs) (hn : n ≤ c) (hc : c ≤ maxLen) :
    Calls Try.prog 4 #[.slice A n c, .bool sl] w fun e w' => e = .returned (.bool true) ∧ Below w.heap.size w w' := by
  have al := Lib.hid alive_any19
  by_cases h1000 : 1000 < n
  · have h1000' : (1000 : Int) < n := by omega
    go_enter Try.func4, Try.ntmps4
    go_wp2_with (go_at_call 8; (with_reducible refine (al.out _).mono ?_); rintro e w9 ⟨rfl, h9⟩; have H9 := Lib.hid h9; clear h9)
    go_ret
    exact ⟨rfl, H9.out⟩
  have h1000' : ¬ (1000 : Int) < n := by omega
  have TH := Lib.hid (fun W1 g (lg : g.ln) (dd : DD W1 g) (b : g.m ≤ 1000000) => theirs_any19 g W1 lg dd.2 b)
  cases sl with
  | false =>
    have W0A := Lib.hid (Below.refl w.heap.size w)
    have RX := Lib.hid hb
    have HY := Lib.hid hy
    have HNC := Lib.hid (show n ≤ c ∧ c ≤ maxLen ∧ n ≤ 200000 from ⟨hn, hc, by omega⟩)
    have HXL := Lib.hid hb.1
    clear hb hy
    go_enter Try.func4, Try.ntmps4
    go_upto_region 7 with (first
      | (go_at_call 20; (with_reducible refine (refparse_any19 A n c xs _ RX7.out HY.out HNC.out.1 HNC.out.2.1 (by have := HNC.out.2.2; omega)).mono ?_); rintro e w8 ⟨g8, e8, rfl, he8, lg8, dd8, h8⟩; have HE8 := Lib.hid he8; have LG8 := Lib.hid lg8; have H8 := Lib.hid (bthen' H7.out h8); have BG8 := Lib.hid (BG7.out.later h8); have DD8 := Lib.hid (DD7.out.later h8); have st8 := fun (cc : Array Value) (hcc : cc.size = 56) => run_storeCells_new (P := Try.prog) w8 31 cc (Fm.FC g8) (by rw [Fm.FC_size LG8.out]; kernel_rfl) (by rw [Fm.FC_size LG8.out]; exact hcc) (Fm.FC_one _); have szh := Fm.FC_size LG8.out; have hbf := Below.alloc (Below.refl w8.heap.size w8) (Nat.le_refl _) (.cells (Fm.FC g8) 31); have BG9 := Lib.hid (BG8.out.later hbf); have BH9 := Lib.hid (BX.new w8 31 (Fm.FC g8)); have H9 := Lib.hid (bthen' H8.out hbf); have DG9 := Lib.hid (DD8.out.later hbf); have DH9 := Lib.hid (dd8.later hbf); clear he8 lg8 dd8 h8 hbf)
      | (go_at_call 19; (with_reducible refine (parse_any19 A n c xs _ RX.out HY.out HNC.out.1 HNC.out.2.1 (by have := HNC.out.2.2; omega)).mono ?_); rintro e w6 ⟨g6, e6, rfl, he6, lg6, dd6, h6⟩; have HE6 := Lib.hid he6; have LG6 := Lib.hid lg6; have H6 := Lib.hid (bthen' W0A.out h6); have RX6 := Lib.hid ((RX.out.below h6).more h6.size); have st6 := fun (cc : Array Value) (hcc : cc.size = 56) => run_storeCells_new (P := Try.prog) w6 42 cc (Fm.FC g6) (by rw [Fm.FC_size LG6.out]; kernel_rfl) (by rw [Fm.FC_size LG6.out]; exact hcc) (Fm.FC_one _); have szg := Fm.FC_size LG6.out; have hbf := Below.alloc (Below.refl w6.heap.size w6) (Nat.le_refl _) (.cells (Fm.FC g6) 42); have BG7 := Lib.hid (BX.new w6 42 (Fm.FC g6)); have H7 := Lib.hid (bthen' H6.out hbf); have DD7 := Lib.hid (dd6.later hbf); have RX7 := Lib.hid ((RX6.out.below hbf).more hbf.size); clear he6 lg6 dd6 h6 hbf))
    change Code.wp _ _ _ _ (w8.alloc (.cells (Fm.FC g8) 31))
    have q6 := HE6.out
    rw [← HE8.out] at q6
    obtain ⟨q7, rfl⟩ := Prod.mk.inj q6
    clear q6
    have PS := Lib.hid (Fm.parse_small HY.out (by rw [HXL.out]; exact HNC.out.2.2))
    obtain ⟨Q, hQ⟩ : ∃ Q, Fm.er g8 = Q := ⟨_, rfl⟩
    have Q8 := Lib.hid hQ
    have Q6 := Lib.hid (q7.trans hQ)
    have QS := Lib.hid (show Q.xs.length ≤ 1000000 ∧ Q.rs.length ≤ 1000000 by
      have h := congrArg Prod.fst HE8.out
      simp only at h
      rw [← hQ, h]
      exact PS.out)
    clear hQ q7
    have BN := Lib.hid (fun W g (dd : DD W g) (he : Fm.er g = Q) => show g.m ≤ 1000000 ∧ g.n ≤ 1000000 by
      have h1 := dd.2.1.1
      have h2 : g.rs = Q.rs := congrArg (·.rs) he
      have h3 := dd.1.1.1
      have h4 : g.xs = Q.xs := congrArg (·.xs) he
      have h5 := QS.out
      rw [h2] at h1
      rw [h4] at h3
      omega)
    have SE9 := Lib.hid (fun A c => same_moved Q6.out Q8.out A c)
    have G6 := Lib.hid (BN.out _ _ DG9.out Q6.out)
    have G8 := Lib.hid (BN.out _ _ DH9.out Q8.out)
    have LA := Lib.hid (fun W2 (h : Below (w8.alloc (.cells (Fm.FC g8) 31)).heap.size (w8.alloc (.cells (Fm.FC g8) 31)) W2) => And.intro (load_any19 LG6.out (BG9.out.later h)) (load_any19 LG8.out (BH9.out.later h)))
    have hee : (e6 == e6) = true := by simp
    obtain ⟨pg, hpg⟩ : ∃ p, w6.heap.size = p := ⟨_, rfl⟩
    obtain ⟨ph, hph⟩ : ∃ p, w8.heap.size = p := ⟨_, rfl⟩
    rw [hpg, hph] at LA
    simp only [hpg, hph]
    generalize w8.alloc (.cells (Fm.FC g8) 31) = w9 at *
    have hacc : Below w9.heap.size w9 w9 := Below.refl _ _
    have SM3 := Lib.hid (fun W A c (h : Below w9.heap.size w9 W) (hr : RG W W.heap.size A g8.m g8.rs) => same_any19 g6 { g8 with RA := A, rc := c } W LG6.out LG8.out (DG9.out.later h).2 hr (DG9.out.later h).1.1 (DH9.out.later h).1.1 G6.out.1 G6.out.2 G8.out.1 G8.out.2)
    clear st6 st8 BG7 BG8 BG9 BH9 RX RX6 RX7 H6 H7 H8 DD7 DD8 HE6 HE8 hpg hph
    go_region_held3 (fun w' => (loadCellsFrom ⟨pg, 0, none⟩ 0 56 #[]).run Try.prog w' = .ok (Fm.FC g6) w' ∧ (loadCellsFrom ⟨ph, 0, none⟩ 0 56 #[]).run Try.prog w' = .ok (Fm.FC g8) w') (first | (exact LA.out _ hacc) | (exact LA.out _ hacc.drew) | go_keep) (first
      | (go_at_call 8; (with_reducible refine (al.out _).mono ?_); rintro e w12 ⟨rfl, h12⟩; replace hacc := bthen' hacc h12; clear h12)
      | (go_at_call 13; (with_reducible refine (SM3.out _ A10 c10 hacc HR10.out).mono ?_); rintro e w11 ⟨rfl, h11⟩; rw [SE9.out]; replace hacc := bthen' hacc h11; clear h11)
      | (go_at_call 10; (with_reducible refine (TH.out _ g8 LG8.out (DH9.out.later (by first | exact hacc | exact hacc.drew)) G8.out.1).mono ?_); rintro e w10 ⟨A10, c10, rfl, hr10, _, _, h10⟩; have HR10 := Lib.hid hr10; replace hacc := bthen' (by first | exact hacc | exact hacc.drew) h10; clear hr10 h10))
    all_goals (
      go_wp2
      go_ret
      exact ⟨rfl, bthen' H9.out hacc⟩)
  | true =>
    have SE := Lib.hid (refseal_any A n c xs w hb hy (by omega))
    have HY0 := Lib.hid (show Byt (Ck.sealed xs) from Ck.sealed_byt hy)
    have HXL0 := Lib.hid hb.1
    clear hb hy hn hc
    obtain ⟨ys, hys⟩ : ∃ y, Ck.sealed xs = y := ⟨_, rfl⟩
    have HYL := Lib.hid (show ys.length = n + 4 by rw [← hys, Ck.sealed_len, HXL0.out])
    rw [hys] at SE HY0
    clear hys
    go_enter Try.func4, Try.ntmps4
    go_upto_region 7 with (first
      | (go_at_call 20; (with_reducible refine (refparse_any19 A1 (n + 4) c1 ys _ RX7.out HY.out HNC.out.1 HNC.out.2.1 (by have := HNC.out.2.2; omega)).mono ?_); rintro e w8 ⟨g8, e8, rfl, he8, lg8, dd8, h8⟩; have HE8 := Lib.hid he8; have LG8 := Lib.hid lg8; have H8 := Lib.hid (bthen' H7.out h8); have BG8 := Lib.hid (BG7.out.later h8); have DD8 := Lib.hid (DD7.out.later h8); have st8 := fun (cc : Array Value) (hcc : cc.size = 56) => run_storeCells_new (P := Try.prog) w8 31 cc (Fm.FC g8) (by rw [Fm.FC_size LG8.out]; kernel_rfl) (by rw [Fm.FC_size LG8.out]; exact hcc) (Fm.FC_one _); have szh := Fm.FC_size LG8.out; have hbf := Below.alloc (Below.refl w8.heap.size w8) (Nat.le_refl _) (.cells (Fm.FC g8) 31); have BG9 := Lib.hid (BG8.out.later hbf); have BH9 := Lib.hid (BX.new w8 31 (Fm.FC g8)); have H9 := Lib.hid (bthen' H8.out hbf); have DG9 := Lib.hid (DD8.out.later hbf); have DH9 := Lib.hid (dd8.later hbf); clear he8 lg8 dd8 h8 hbf)
      | (go_at_call 19; (with_reducible refine (parse_any19 A1 (n + 4) c1 ys _ RX.out HY.out HNC.out.1 HNC.out.2.1 (by have := HNC.out.2.2; omega)).mono ?_); rintro e w6 ⟨g6, e6, rfl, he6, lg6, dd6, h6⟩; have HE6 := Lib.hid he6; have LG6 := Lib.hid lg6; have H6 := Lib.hid (bthen' W0A.out h6); have RX6 := Lib.hid ((RX.out.below h6).more h6.size); have st6 := fun (cc : Array Value) (hcc : cc.size = 56) => run_storeCells_new (P := Try.prog) w6 42 cc (Fm.FC g6) (by rw [Fm.FC_size LG6.out]; kernel_rfl) (by rw [Fm.FC_size LG6.out]; exact hcc) (Fm.FC_one _); have szg := Fm.FC_size LG6.out; have hbf := Below.alloc (Below.refl w6.heap.size w6) (Nat.le_refl _) (.cells (Fm.FC g6) 42); have BG7 := Lib.hid (BX.new w6 42 (Fm.FC g6)); have H7 := Lib.hid (bthen' H6.out hbf); have DD7 := Lib.hid (dd6.later hbf); have RX7 := Lib.hid ((RX6.out.below hbf).more hbf.size); clear he6 lg6 dd6 h6 hbf)
      | (go_at_call 18; (with_reducible refine SE.out.mono ?_); rintro e w1 ⟨v1, rfl, ho1, h1⟩; obtain ⟨A1, c1, rfl, hr1, hc1, hm1⟩ := OBn.slice ho1; have RX := Lib.hid hr1; have HNC := Lib.hid (show n + 4 ≤ c1 ∧ c1 ≤ maxLen ∧ n + 4 ≤ 200000 from ⟨hc1, hm1, by omega⟩); have HY := HY0; have HXL := HYL; have W0A := Lib.hid h1; clear ho1 hr1 hc1 hm1 h1))
    change Code.wp _ _ _ _ (w8.alloc (.cells (Fm.FC g8) 31))
    have q6 := HE6.out
    rw [← HE8.out] at q6
    obtain ⟨q7, rfl⟩ := Prod.mk.inj q6
    clear q6
    have PS := Lib.hid (Fm.parse_small HY.out (by rw [HXL.out]; exact HNC.out.2.2))
    obtain ⟨Q, hQ⟩ : ∃ Q, Fm.er g8 = Q := ⟨_, rfl⟩
    have Q8 := Lib.hid hQ
    have Q6 := Lib.hid (q7.trans hQ)
    have QS := Lib.hid (show Q.xs.length ≤ 1000000 ∧ Q.rs.length ≤ 1000000 by
      have h := congrArg Prod.fst HE8.out
      simp only at h
      rw [← hQ, h]
      exact PS.out)
    clear hQ q7
    have BN := Lib.hid (fun W g (dd : DD W g) (he : Fm.er g = Q) => show g.m ≤ 1000000 ∧ g.n ≤ 1000000 by
      have h1 := dd.2.1.1
      have h2 : g.rs = Q.rs := congrArg (·.rs) he
      have h3 := dd.1.1.1
      have h4 : g.xs = Q.xs := congrArg (·.xs) he
      have h5 := QS.out
      rw [h2] at h1
      rw [h4] at h3
      omega)
    have SE9 := Lib.hid (fun A c => same_moved Q6.out Q8.out A c)
    have G6 := Lib.hid (BN.out _ _ DG9.out Q6.out)
    have G8 := Lib.hid (BN.out _ _ DH9.out Q8.out)
    have LA := Lib.hid (fun W2 (h : Below (w8.alloc (.cells (Fm.FC g8) 31)).heap.size (w8.alloc (.cells (Fm.FC g8) 31)) W2) => And.intro (load_any19 LG6.out (BG9.out.later h)) (load_any19 LG8.out (BH9.out.later h)))
    have hee : (e6 == e6) = true := by simp
    obtain ⟨pg, hpg⟩ : ∃ p, w6.heap.size = p := ⟨_, rfl⟩
    obtain ⟨ph, hph⟩ : ∃ p, w8.heap.size = p := ⟨_, rfl⟩
    rw [hpg, hph] at LA
    simp only [hpg, hph]
    generalize w8.alloc (.cells (Fm.FC g8) 31) = w9 at *
    have hacc : Below w9.heap.size w9 w9 := Below.refl _ _
    have SM3 := Lib.hid (fun W A c (h : Below w9.heap.size w9 W) (hr : RG W W.heap.size A g8.m g8.rs) => same_any19 g6 { g8 with RA := A, rc := c } W LG6.out LG8.out (DG9.out.later h).2 hr (DG9.out.later h).1.1 (DH9.out.later h).1.1 G6.out.1 G6.out.2 G8.out.1 G8.out.2)
    clear st6 st8 BG7 BG8 BG9 BH9 RX RX6 RX7 H6 H7 H8 DD7 DD8 HE6 HE8 hpg hph
    go_region_held3 (fun w' => (loadCellsFrom ⟨pg, 0, none⟩ 0 56 #[]).run Try.prog w' = .ok (Fm.FC g6) w' ∧ (loadCellsFrom ⟨ph, 0, none⟩ 0 56 #[]).run Try.prog w' = .ok (Fm.FC g8) w') (first | (exact LA.out _ hacc) | (exact LA.out _ hacc.drew) | go_keep) (first
      | (go_at_call 8; (with_reducible refine (al.out _).mono ?_); rintro e w12 ⟨rfl, h12⟩; replace hacc := bthen' hacc h12; clear h12)
      | (go_at_call 13; (with_reducible refine (SM3.out _ A10 c10 hacc HR10.out).mono ?_); rintro e w11 ⟨rfl, h11⟩; rw [SE9.out]; replace hacc := bthen' hacc h11; clear h11)
      | (go_at_call 10; (with_reducible refine (TH.out _ g8 LG8.out (DH9.out.later (by first | exact hacc | exact hacc.drew)) G8.out.1).mono ?_); rintro e w10 ⟨A10, c10, rfl, hr10, _, _, h10⟩; have HR10 := Lib.hid hr10; replace hacc := bthen' (by first | exact hacc | exact hacc.drew) h10; clear hr10 h10))
    all_goals (
      go_wp2
      go_ret
      exact ⟨rfl, bthen' H9.out hacc⟩)
end Go.Proofs.Ytjiafpmcibokbaa
