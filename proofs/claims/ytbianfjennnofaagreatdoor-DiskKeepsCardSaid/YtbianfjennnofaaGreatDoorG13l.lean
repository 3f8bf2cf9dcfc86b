/- WALKS OF LAYER 13, TWELFTH PART: Write. -/
import Derived.Test.YtbianfjennnofaaGreatDoorG13k
namespace Go.Proofs.YtbianfjennnofaaGreatDoor
set_option linter.unusedVariables false
open Go Go.RowKit Go.Maps
set_option maxRecDepth 100000
set_option maxHeartbeats 1000000
open Nt (Tr Nd WF Ps Path at_ cnt used)
theorem RB.aside13 {w : World} {B n a : Nat} {A : Option Addr} {xs : List Int} (h : RB w B A n xs) (hne : 0 < n → ∀ b o, A = some ⟨b, o, none⟩ → b ≠ a) (j : Nat) (v : Value) : RB (w.setCell ⟨a, j, none⟩ v) B A n xs :=
  ⟨h.1, fun hn => by
    obtain ⟨b, o, e, hlt, hc⟩ := h.2 hn
    refine ⟨b, o, e, hlt, fun k hk => ?_⟩
    have := hne hn b o e
    have h1 := hc k hk
    unfold World.cell? at h1 ⊢
    rw [heap_setCell_other _ _ _ _ this]
    exact h1⟩
theorem RB.apart13 {w : World} {B n a : Nat} {A : Option Addr} {xs : List Int} {T : TypeId} {cs : Array Value} (h : RB w B A n xs) (hb : BX w a T cs) (hcs : ∀ (i : Nat) x, cs[i]? ≠ some (.int .u8 x)) : 0 < n → ∀ b o, A = some ⟨b, o, none⟩ → b ≠ a := fun hn b o e hba => by
  subst hba
  obtain ⟨b2, o2, e2, _, hc⟩ := h.2 hn
  rw [e] at e2
  cases e2
  have h0 := hc 0 hn
  unfold BX at hb
  rw [show o + 0 = o from rfl, cell_of_row w b o cs T (0, 0) hb] at h0
  exact hcs o _ h0
section
variable {F : Nat → Prop} {K tb : Nat} {w w' : World} {T : Tr} {ad mb : Nat → Nat}
theorem write_gen (hW : WF T K) (hK : K ≤ 100000) (hR : RepP F K w tb T ad mb) (p : ByteArray) (hp : p.size ≤ 1000000) (A : Option Addr) (n k : Nat) (xs : List Int) (B : Nat) (hd : RB w B A n xs) (hB : B ≤ w.heap.size) (hne : 0 < n → ∀ b o, A = some ⟨b, o, none⟩ → b ≠ tb) (hn : n ≤ 1000000) :
    Calls Tryz.prog 56 #[.pointer (some ⟨tb, 0, none⟩), .string p, .slice A n k] w fun e w' => Done F K w w' tb (T.wr p A n k xs) e := by
  have HR := Lib.hid hR
  have kf := Lib.hid (fun W (h : RepP F K W tb T ad mb) => find_any hW h p hp)
  by_cases hc : (T.find p).2 = 0
  · have hj := (hW.find_ok hc).2
    have hfd : T.find p = ((T.find p).1, 0) := by rw [← hc]
    have hE : ∀ j, T.find p = (j, 0) → T.wrE p n = if (T.nd j).kind = 4 then 13 else if (T.nd j).kind = 3 then 11 else if 4096 < n then 10 else if T.roomy 0 ((n : Int) - (T.nd j).n) = false then 14 else 0 := fun j e => by unfold Tr.wrE; rw [e, if_neg (by simp)]
    have hE2 : ∀ j, T.find p = (j, 0) → T.wr p A n k xs = if T.wrE p n = 0 then (T.wr1 j A n k xs, 0) else (T, T.wrE p n) := fun j e => by unfold Tr.wr; rw [e]
    have hE := hE _ hfd
    have hE2 := hE2 _ hfd
    rw [hfd] at kf
    generalize (T.find p).1 = j at *
    clear hfd hc
    simp only [fv, if_pos, ptrv] at kf
    have hjl := hW.lt _ _ hj
    have hok := hW.ndok hjl
    rw [hE2]
    clear hE2
    obtain ⟨kd, hkk⟩ : ∃ kd, (T.nd j).kind = kd := ⟨_, rfl⟩
    have hjb := Lib.hid (fun W (h : RepP F K W tb T ad mb) => show W.cell? ⟨ad j, 0, none⟩ = some (.int .i64 kd) from by rw [← hkk]; exact (h.node _ _ hj).1.cell rfl)
    by_cases hk4 : kd = 4
    · subst hk4
      rw [if_pos hkk] at hE
      rw [hE, if_neg (by decide)]
      clear hE hkk
      go_enter Tryz.func56, Tryz.ntmps56
      go_wp2_with (go_at_call 66; refine (kf.out _ HR.out).mono ?_; rintro e w1 ⟨rfl, hb1⟩; have d0 := hjb.out w1 (HR.out.later hb1))
      go_ret
      exact Done.err HR.out hb1 13
    · rw [if_neg (by rw [hkk]; exact hk4)] at hE
      have g4 : (kd == 4) = false := by simp [hk4]
      by_cases hk3 : kd = 3
      · subst hk3
        rw [if_pos hkk] at hE
        rw [hE, if_neg (by decide)]
        clear hE hkk hk4
        go_enter Tryz.func56, Tryz.ntmps56
        go_wp2_with (go_at_call 66; refine (kf.out _ HR.out).mono ?_; rintro e w1 ⟨rfl, hb1⟩; have d0 := hjb.out w1 (HR.out.later hb1))
        go_ret
        exact Done.err HR.out hb1 11
      · rw [if_neg (by rw [hkk]; exact hk3)] at hE
        have g3 : (kd == 3) = false := by simp [hk3]
        have hk1 : (T.nd j).kind = 1 := by have := hok.1; omega
        by_cases hbig : n ≤ 4096
        · have gb : ¬ (4096 : Int) < n := by omega
          rw [if_neg (by omega)] at hE
          have kr := Lib.hid (fun W (h : RepP F K W tb T ad mb) => rroom_any hW hK h 0 ((n : Int) - (T.nd j).n))
          have hon := hok.2.1
          have hoz := hok.2.2.1
          obtain ⟨D, hD⟩ : ∃ D, strOfNums (T.nd j).xs = D := ⟨_, rfl⟩
          have hDs : D.size = (T.nd j).n := by rw [← hD, son_size, hon]
          have hjd := Lib.hid (fun W (h : RepP F K W tb T ad mb) => show W.cell? ⟨ad j, 6, none⟩ = some (.string D) from by rw [← hD]; exact (h.node _ _ hj).1.cell rfl)
          have hjn := Lib.hid (fun W (h : RepP F K W tb T ad mb) => (h.node _ _ hj).1)
          have hnt := Lib.hid (hR.ne_tree hj)
          have hub := usedB_le hW
          have hul := Nt.used_set (R := T.paths) (fun x : Nd => x.xs.length) T.nodes { T.nd j with A := A, n := n, c := k, xs := xs } hjl (fun e => by subst e; have := hW.rootk; omega) (Nt.cnt_pos.2 ⟨_, hj⟩)
          obtain ⟨N, hN⟩ : ∃ N, (T.nd j).n = N := ⟨_, rfl⟩
          rw [hN] at kr hDs hE hon hoz
          obtain ⟨M, hM⟩ : ∃ M : Int, (n : Int) - N = M := ⟨_, rfl⟩
          have hM1 : IntKind.i64.wrap ((n : Int) - N) = M := by rw [wrap_small (by omega) (by omega), hM]
          have hDs' : (D.size : Int) = N := by omega
          rw [hM] at kr hE
          have hxl := hd.1
          by_cases hro : T.roomy 0 M = true
          · rw [hro] at kr
            rw [if_neg (by simp [hro])] at hE
            rw [hE, if_pos rfl]
            have hUB : ((T.wr1 j A n k xs).usedB : Int) = T.usedB + M := by
              have e1 : (T.wr1 j A n k xs).usedB = used T.paths (fun x => x.xs.length) (T.nodes.set j { T.nd j with A := A, n := n, c := k, xs := xs }) := rfl
              have e2 : (T.nodes.getD j Nd.zero).xs.length = N := hon
              have e3 : T.usedB = used T.paths (fun x => x.xs.length) T.nodes := rfl
              simp only [e2] at hul
              rw [hxl, ← e1, ← e3] at hul
              omega
            have hUN : (T.wr1 j A n k xs).usedN = T.usedN := Nt.used_set0 _ T.nodes _ hjl rfl
            have HUB := hUB
            have HDD := Lib.hid hD
            obtain ⟨V, hV⟩ : ∃ V : Int, (T.usedB : Int) = V := ⟨_, rfl⟩
            obtain ⟨U, hU⟩ : ∃ U : Int, V + M = U := ⟨_, rfl⟩
            have hM2 : IntKind.i64.wrap (V + M) = U := by rw [wrap_small (by omega) (by omega), hU]
            rw [hV, hU] at HUB
            have hT4 := Lib.hid (fun W (h : RepP F K W tb T ad mb) => show W.cell? ⟨tb, 4, none⟩ = some (.int .i64 V) from by rw [← hV]; exact h.tree.cell rfl)
            have hCV := Lib.hid (fun W (h : Below w.heap.size w W) => ((hd.below (h.mono hB)).aside13 hne 4 (.int .i64 U)).conv k)
            have HUB := Lib.hid HUB
            clear hE hro hU hM hkk hk4 hk3 hul hub hDs hD hbig hxl hN hon hoz hUB hV hok
            go_enter Tryz.func56, Tryz.ntmps56
            go_wp2_with (first
              | (go_at_call 66; refine (kf.out _ HR.out).mono ?_; rintro e w1 ⟨rfl, hb1⟩; have d0 := hjb.out w1 (HR.out.later hb1); have d6 := hjd.out w1 (HR.out.later hb1))
              | (go_at_call 80; refine (kr.out _ (HR.out.later hb1)).mono ?_; rintro e w2 ⟨rfl, hb2⟩; have hR2 := Lib.hid ((HR.out.later hb1).later hb2); have t4 := hT4.out w2 hR2.out; have tf := hR2.out.tree.free 4; have hn2 := Lib.hid ((hjn.out w2 hR2.out).other hnt.out (.int .i64 U) (j := 4)); have hcv := hCV.out w2 (bthen hb1 hb2); have n6 : (w2.setCell ⟨tb, 4, none⟩ (.int .i64 U)).cell? ⟨ad j, 6, none⟩ = some (.string (strOfNums (T.nd j).xs)) := hn2.out.cell rfl; have nf := hn2.out.free 6))
            go_ret
            have hB2 := bthen hb1 hb2
            have hm4 : mbv T mb j = none := by unfold mbv; rw [if_neg (by omega)]
            refine ⟨rfl, ⟨ad, mb, (hR.withed (w' := (w2.setCell ⟨tb, 4, none⟩ (.int .i64 U)).setCell ⟨ad j, 6, none⟩ (.string (strOfNums xs))) (x := { T.nd j with A := A, n := n, c := k, xs := xs }) hW hj rfl (hn2.out.set 6 (.string (strOfNums xs))) ?_ ?_).weak (Grow.self F _ _) (by omega)⟩, ?_⟩
            · have e2 : (T.with_ j { T.nd j with A := A, n := n, c := k, xs := xs }).usedN = T.usedN := hUN
              have e3 : ((T.with_ j { T.nd j with A := A, n := n, c := k, xs := xs }).usedB : Int) = U := HUB.out
              have ht := (hR2.out.tree.set 4 (.int .i64 U)).other (b := ad j) (j := 6) hnt.out.symm (.string (strOfNums xs))
              show BX _ tb 95 #[_, _, _, .int .i64 ((T.with_ j { T.nd j with A := A, n := n, c := k, xs := xs }).usedN : Nat), .int .i64 ((T.with_ j { T.nd j with A := A, n := n, c := k, xs := xs }).usedB : Nat)]
              rw [e2, e3]
              exact ht
            · intro i h1 h2 h3
              rw [heap_setCell_other _ _ _ _ h2, heap_setCell_other _ _ _ _ h3]
              exact hB2.block i h1
            · exact (Keep.grow hB2 (Keep.ofOth ((Oth.refl tb w2).setCell 4 _) hR.ftree)).trans (Keep.ofOth ((Oth.refl (ad j) _).setCell 6 _) (hR.node _ _ hj).2)
          · have hro' : T.roomy 0 M = false := by cases h : T.roomy 0 M with | false => rfl | true => exact absurd h hro
            rw [hro'] at kr
            rw [if_pos hro'] at hE
            rw [hE, if_neg (by decide)]
            clear hE hro hro' hM hkk hk4 hk3 hul hub hDs hD hbig hxl hN hon hoz hok
            go_enter Tryz.func56, Tryz.ntmps56
            go_wp2_with (first
              | (go_at_call 66; refine (kf.out _ HR.out).mono ?_; rintro e w1 ⟨rfl, hb1⟩; have d0 := hjb.out w1 (HR.out.later hb1); have d6 := hjd.out w1 (HR.out.later hb1))
              | (go_at_call 80; refine (kr.out _ (HR.out.later hb1)).mono ?_; rintro e w2 ⟨rfl, hb2⟩))
            go_ret
            exact Done.err HR.out (bthen hb1 hb2) 14
        · have gb : (4096 : Int) < n := by omega
          rw [if_pos (by omega)] at hE
          rw [hE, if_neg (by decide)]
          clear hE hkk hk4 hk3 hbig
          go_enter Tryz.func56, Tryz.ntmps56
          go_wp2_with (go_at_call 66; refine (kf.out _ HR.out).mono ?_; rintro e w1 ⟨rfl, hb1⟩; have d0 := hjb.out w1 (HR.out.later hb1))
          go_ret
          exact Done.err HR.out hb1 10
  · have hE : T.wr p A n k xs = (T, (T.find p).2) := by
      have : T.wrE p n = (T.find p).2 := by unfold Tr.wrE; rw [if_pos hc]
      unfold Tr.wr
      rw [this, if_neg hc]
    rw [hE]
    generalize T.find p = x at *
    obtain ⟨j, z⟩ := x
    simp only at hc kf ⊢
    simp only [fv, if_neg hc, ptrv] at kf
    have g : (z != 0) = true := by simp [hc]
    clear hE hc
    go_enter Tryz.func56, Tryz.ntmps56
    go_wp2_with (go_at_call 66; refine (kf.out _ HR.out).mono ?_; rintro e w1 ⟨rfl, hb1⟩)
    go_ret
    exact Done.err HR.out hb1 z
theorem write_any (hW : WF T K) (hK : K ≤ 100000) (hR : RepP F K w tb T ad mb) (p : ByteArray) (hp : p.size ≤ 1000000) (A : Option Addr) (n k : Nat) (xs : List Int) (B : Nat) (hd : RB w B A n xs) (hB : B ≤ w.heap.size) (hBt : B ≤ tb) (hn : n ≤ 1000000) :
    Calls Tryz.prog 56 #[.pointer (some ⟨tb, 0, none⟩), .string p, .slice A n k] w fun e w' => Done F K w w' tb (T.wr p A n k xs) e :=
  write_gen hW hK hR p hp A n k xs B hd hB (fun h0 b o e => by
    obtain ⟨b2, o2, e2, hlt, _⟩ := hd.2 h0
    rw [e] at e2
    cases e2
    omega) hn
end
end Go.Proofs.YtbianfjennnofaaGreatDoor
