/- WALKS OF LAYER 13, SIXTEENTH PART: what is told: List, Get, Same, Used; an empty tree. -/
import Derived.Test.YthgbncpiehcghaaGreatDoorGv1
import Derived.Lib.AppendStr
import Derived.Test.YthgbncpiehcghaaGreatDoorGy3
namespace Go.Proofs.YthgbncpiehcghaaGreatDoor
set_option linter.unusedVariables false
open Go Go.RowKit Go.Maps
set_option maxRecDepth 100000
set_option maxHeartbeats 4000000
open Nt (Tr Nd WF Ps Path at_ cnt used)
/-- A Dir's names, rising. -/
def IsKids (T : Tr) (q : Path) (L : List ByteArray) : Prop := L.Pairwise (fun x y => Pp.lt x y = true) ∧ ∀ s, s ∈ L ↔ (at_ T.paths (q ++ [s])).isSome = true
theorem IsKids.one {T : Tr} {q : Path} {L M : List ByteArray} (h : IsKids T q L) (k : IsKids T q M) : L = M := rise_one h.1 k.1 fun s => (h.2 s).trans (k.2 s).symm
/-- What List answers. -/
def lsE (T : Tr) (p : ByteArray) : Int := if (T.find p).2 ≠ 0 then (T.find p).2 else if (T.nd (T.find p).1).kind ≠ 4 then 12 else 0
section
variable {F : Nat → Prop} {K tb : Nat} {w w' : World} {T : Tr} {ad mb : Nat → Nat}
theorem list_any (hW : WF T K) (hK : K ≤ 100000) (hR : RepP F K w tb T ad mb) (p : ByteArray) (hp : p.size ≤ 1000000) :
    Calls Tryz.prog 50 #[.pointer (some ⟨tb, 0, none⟩), .string p] w fun e w' => ∃ v L, e = .returned (.tuple #[v, .int .i64 (lsE T p)]) ∧ OS w' w.heap.size v L ∧ (lsE T p = 0 → IsKids T (Nt.nms p) L) ∧ (lsE T p ≠ 0 → L = []) ∧ Below w.heap.size w w' := by
  have HR := Lib.hid hR
  have kf := Lib.hid (fun W (h : RepP F K W tb T ad mb) => find_any hW h p hp)
  by_cases hc : (T.find p).2 = 0
  · have hj := (hW.find_ok hc).2
    have hfd : T.find p = ((T.find p).1, 0) := by rw [← hc]
    have hE : lsE T p = if (T.nd (T.find p).1).kind ≠ 4 then 12 else 0 := by unfold lsE; rw [if_neg (by simp [hc])]
    rw [hE]
    rw [hfd] at kf
    generalize (T.find p).1 = n at *
    simp only [fv, if_pos, ptrv] at kf
    clear hE hfd hc
    obtain ⟨kn, hkn⟩ : ∃ kn, (T.nd n).kind = kn := ⟨_, rfl⟩
    have kk := Lib.hid (fun W (h : RepP F K W tb T ad mb) => show W.cell? ⟨ad n, 0, none⟩ = some (.int .i64 kn) from by rw [← hkn]; exact (h.node _ _ hj).1.cell rfl)
    have kr := Lib.hid (fun W (h : RepP F K W tb T ad mb) => rising_tree hW hK hj (h.node _ _ hj).1 (fun hk => (h.map _ _ hj hk).2))
    by_cases hk4 : kn = 4
    · rw [if_neg (by rw [hkn]; simp [hk4])]
      have g : (kn != 4) = false := by simp [hk4]
      clear hkn hk4
      go_enter Tryz.func50, Tryz.ntmps50
      go_wp2_with (first
        | (go_at_call 69; refine (kf.out _ HR.out).mono ?_; rintro e w1 ⟨rfl, hb1⟩; have hR1 := Lib.hid (HR.out.later hb1); have t0 := kk.out w1 hR1.out)
        | (go_at_call 100; refine (kr.out _ hR1.out).mono ?_; rintro e w2 ⟨v, L, rfl, hL, ho, hb2⟩))
      go_ret2
      exact ⟨v, L, rfl, row_more ho hb1.size, fun _ => hL, fun h => absurd rfl h, bthen hb1 hb2⟩
    · rw [if_pos (by rw [hkn]; exact hk4)]
      have g : (kn != 4) = true := by simp [hk4]
      clear hkn hk4
      go_enter Tryz.func50, Tryz.ntmps50
      go_wp2_with (first
        | (go_at_call 69; refine (kf.out _ HR.out).mono ?_; rintro e w1 ⟨rfl, hb1⟩; have hR1 := Lib.hid (HR.out.later hb1); have t0 := kk.out w1 hR1.out))
      go_ret2
      exact ⟨_, [], rfl, OS.nil _ _, fun h => absurd h (by decide), fun _ => rfl, hb1⟩
  · have hE : lsE T p = (T.find p).2 := by unfold lsE; rw [if_pos hc]
    rw [hE]
    generalize T.find p = x at *
    obtain ⟨j, z⟩ := x
    simp only at hc kf ⊢
    simp only [fv, if_neg hc, ptrv] at kf
    have g : (z != 0) = true := by simp [hc]
    have HZ := Lib.hid hc
    clear hE hc
    go_enter Tryz.func50, Tryz.ntmps50
    go_wp2_with (go_at_call 69; refine (kf.out _ HR.out).mono ?_; rintro e w1 ⟨rfl, hb1⟩)
    go_ret2
    exact ⟨_, [], rfl, OS.nil _ _, fun h => absurd h HZ.out, fun _ => rfl, hb1⟩
theorem same_tree (hW : WF T K) (hK : K ≤ 100000) (hR : RepP F K w tb T ad mb) (p q : ByteArray) (hp : p.size ≤ 1000000) (hq : q.size ≤ 1000000) :
    Calls Tryz.prog 18 #[.pointer (some ⟨tb, 0, none⟩), .string p, .string q] w fun e w' => e = .returned (.bool (decide ((T.find p).2 = 0 ∧ (T.find q).2 = 0 ∧ (T.find p).1 = (T.find q).1))) ∧ Below w.heap.size w w' := by
  have HR := Lib.hid hR
  have kf := Lib.hid (fun W (h : RepP F K W tb T ad mb) => find_any hW h p hp)
  have kg := Lib.hid (fun W (h : RepP F K W tb T ad mb) => find_any hW h q hq)
  by_cases hc : (T.find p).2 = 0
  · have hj := (hW.find_ok hc).2
    have hfd : T.find p = ((T.find p).1, 0) := by rw [← hc]
    rw [hfd] at kf
    by_cases hd : (T.find q).2 = 0
    · have hi := (hW.find_ok hd).2
      have hfe : T.find q = ((T.find q).1, 0) := by rw [← hd]
      rw [hfe] at kg
      rw [show decide ((T.find p).2 = 0 ∧ (T.find q).2 = 0 ∧ (T.find p).1 = (T.find q).1) = decide ((T.find p).1 = (T.find q).1) from by simp [hc, hd]]
      generalize (T.find p).1 = n at *
      generalize (T.find q).1 = m at *
      simp only [fv, if_pos, ptrv] at kf kg
      have kq := Lib.hid (fun W (h : RepP F K W tb T ad mb) => h.eqp hj hi)
      clear hfd hfe hc hd
      generalize decide (n = m) = b at *
      go_enter Tryz.func18, Tryz.ntmps18
      go_wp2_with (first
        | (go_at_call 69; (with_reducible refine (kf.out _ HR.out).mono ?_); rintro e w1 ⟨rfl, hb1⟩; have hR1 := Lib.hid (HR.out.later hb1))
        | (go_at_call 69; (with_reducible refine (kg.out _ hR1.out).mono ?_); rintro e w2 ⟨rfl, hb2⟩; have eq := kq.out w2 (hR1.out.later hb2)))
      go_ret
      exact ⟨ret_bool (by simp), bthen hb1 hb2⟩
    · rw [show decide ((T.find p).2 = 0 ∧ (T.find q).2 = 0 ∧ (T.find p).1 = (T.find q).1) = false from by simp [hd]]
      generalize T.find q = y at *
      obtain ⟨j, z⟩ := y
      simp only at hd kg
      simp only [fv, if_neg hd, ptrv] at kg
      generalize (T.find p).1 = n at *
      simp only [fv, if_pos, ptrv] at kf
      have g : (z == 0) = false := by simp [hd]
      clear hfd hc hd
      go_enter Tryz.func18, Tryz.ntmps18
      go_wp2_with (first
        | (go_at_call 69; (with_reducible refine (kf.out _ HR.out).mono ?_); rintro e w1 ⟨rfl, hb1⟩; have hR1 := Lib.hid (HR.out.later hb1))
        | (go_at_call 69; (with_reducible refine (kg.out _ hR1.out).mono ?_); rintro e w2 ⟨rfl, hb2⟩))
      go_ret
      exact ⟨ret_bool (by simp), bthen hb1 hb2⟩
  · rw [show decide ((T.find p).2 = 0 ∧ (T.find q).2 = 0 ∧ (T.find p).1 = (T.find q).1) = false from by simp [hc]]
    generalize T.find p = x at *
    obtain ⟨j, z⟩ := x
    simp only at hc kf
    simp only [fv, if_neg hc, ptrv] at kf
    have g : (z != 0) = true := by simp [hc]
    clear hc
    go_enter Tryz.func18, Tryz.ntmps18
    go_wp2_with (first
        | (go_at_call 69; (with_reducible refine (kf.out _ HR.out).mono ?_); rintro e w1 ⟨rfl, hb1⟩))
    go_ret
    exact ⟨rfl, hb1⟩
theorem used_any (hR : RepP F K w tb T ad mb) : Calls Tryz.prog 15 #[.pointer (some ⟨tb, 0, none⟩)] w fun e w' => e = .returned (.tuple #[.int .i64 (T.usedN : Nat), .int .i64 (T.usedB : Nat)]) ∧ Below w.heap.size w w' := by
  have HR := Lib.hid hR
  have km := Lib.hid (made_any w tb _ (ad 0) hR.tree rfl)
  have c3 : w.cell? ⟨tb, 3, none⟩ = some (.int .i64 (T.usedN : Nat)) := hR.tree.cell rfl
  have c4 : w.cell? ⟨tb, 4, none⟩ = some (.int .i64 (T.usedB : Nat)) := hR.tree.cell rfl
  generalize ((T.usedN : Nat) : Int) = u at *
  generalize ((T.usedB : Nat) : Int) = v at *
  go_enter Tryz.func15, Tryz.ntmps15
  go_wp2_with (go_at_call 65; refine km.out.mono ?_; rintro e w1 ⟨rfl, rfl⟩)
  go_quiet (fail)
  go_wp2
  go_ret2
  exact ⟨rfl, below_drewN (Below.refl _ w) _⟩
end
theorem new_any (w : World) (a b : Int) : Calls Tryz.prog 7 #[.int .i64 a, .int .i64 b] w fun e w' => e = .returned (.pointer (some ⟨w.heap.size + 3, 0, none⟩)) ∧ Rep (Grow (fun _ => False) w w') 1 w' (w.heap.size + 3) (Nt.new a b) ∧ Below w.heap.size w w' := by
  have kd := Lib.hid (newDir_any w 0 0 0 0)
  go_enter Tryz.func7, Tryz.ntmps7
  go_wp2_with (go_at_call 47; refine kd.out.mono ?_; rintro e w1 ⟨rfl, hn, hm, hb, hs⟩; have c8 : w1.cell? ⟨w.heap.size + 2, 8, none⟩ = some (.int .i64 0) := hn.cell rfl; have f8 := hn.free 8)
  go_ret
  have hsz : ((w1.setCell ⟨w.heap.size + 2, 8, none⟩ (.int .i64 1)).heap.size) = w.heap.size + 3 := by simp [World.setCell, hs]
  have mem : ∀ {r : Path} {n : Nat}, (r, n) ∈ (Nt.new a b).paths ↔ r = [] ∧ n = 0 := fun {r n} => by
    show (r, n) ∈ [(([] : Path), 0)] ↔ _
    simp
  have hF : ∀ k, w.heap.size ≤ k → k ≤ w.heap.size + 3 → Grow (fun _ => False) w ((w1.setCell ⟨w.heap.size + 2, 8, none⟩ (.int .i64 1)).alloc (Obj.cells #[.pointer (some ⟨w.heap.size + 2, 0, none⟩), .int .i64 (max a 0), .int .i64 (max b 0), .int .i64 0, .int .i64 0] 112)) k := fun k h1 h2 => .inr ⟨h1, by simp [hsz]; omega⟩
  refine ⟨rfl, ⟨fun _ => w.heap.size + 2, fun _ => w.heap.size + 1, ⟨?_, hF _ (by omega) (by omega), ?_, ?_, ?_, ?_⟩⟩, (hb.setCell (by simp) _).alloc (by rw [hsz]; omega) _⟩
  · have := BX.new (w1.setCell ⟨w.heap.size + 2, 8, none⟩ (.int .i64 1)) 112 #[.pointer (some ⟨w.heap.size + 2, 0, none⟩), .int .i64 (max a 0), .int .i64 (max b 0), .int .i64 0, .int .i64 0]
    rw [hsz] at this
    exact this
  · intro r n hr
    obtain ⟨rfl, rfl⟩ := mem.1 hr
    exact ⟨(hn.set 8 (.int .i64 1)).alloc _, hF _ (by omega) (by omega)⟩
  · intro r q n m h1 h2 _
    rw [(mem.1 h1).2, (mem.1 h2).2]
  · intro r n hr _
    obtain ⟨rfl, rfl⟩ := mem.1 hr
    refine ⟨hF _ (by omega) (by omega), (((hm.setCell (a := ⟨w.heap.size + 2, 8, none⟩) (by simp) _).alloc _).mono (Nat.zero_le _)).cong fun s _ => ?_⟩
    show none = ((at_ [(([] : Path), 0)] ([] ++ [s])).map fun _ => w.heap.size + 2)
    simp [at_]
  · intro r q n m h1 h2 _ _ _
    rw [(mem.1 h1).2, (mem.1 h2).2]
/-- What Get answers. -/
def infoV (T : Tr) (p : ByteArray) (vd : Value) : Value :=
  if (T.find p).2 = 0 then .agg #[.int .i64 (T.nd (T.find p).1).kind, .int .i64 (T.nd (T.find p).1).mode, .int .i64 (T.nd (T.find p).1).uid, .int .i64 (T.nd (T.find p).1).gid, .int .i64 (T.nd (T.find p).1).mtime, .string (T.nd (T.find p).1).link, vd, .int .i64 (cnt T.paths (T.find p).1 : Nat)]
  else .agg #[.int .i64 0, .int .i64 0, .int .i64 0, .int .i64 0, .int .i64 0, .string ⟨#[]⟩, .slice none 0 0, .int .i64 0]
section
variable {F : Nat → Prop} {K tb : Nat} {w w' : World} {T : Tr} {ad mb : Nat → Nat}
theorem get_any (hW : WF T K) (hK : K ≤ 100000) (hR : RepP F K w tb T ad mb) (p : ByteArray) (hp : p.size ≤ 1000000) :
    Calls Tryz.prog 41 #[.pointer (some ⟨tb, 0, none⟩), .string p] w fun e w' => ∃ vd, e = .returned (.tuple #[infoV T p vd, .int .i64 (T.find p).2]) ∧
      ((T.find p).2 = 0 → w'.ownsRow w.heap.size 5 1 vd (T.nd (T.find p).1).xs.length (Lib.strCells (strOfNums (T.nd (T.find p).1).xs))) ∧ Below w.heap.size w w' := by
  obtain ⟨i0, hi, hz0, hz1, hz2⟩ := info_parts info_u8
  have HR := Lib.hid hR
  have kf := Lib.hid (fun W (h : RepP F K W tb T ad mb) => find_any hW h p hp)
  have hb0 := Lib.hid (below_new w (.cells #[.int .i64 0, .int .i64 0, .int .i64 0, .int .i64 0, .int .i64 0, .string ⟨#[]⟩, .slice none 0 0, .int .i64 0] 92))
  have HB := Lib.hid (BX.new w 92 #[.int .i64 0, .int .i64 0, .int .i64 0, .int .i64 0, .int .i64 0, .string ⟨#[]⟩, .slice none 0 0, .int .i64 0])
  by_cases hc : (T.find p).2 = 0
  · have hj := (hW.find_ok hc).2
    have hfd : T.find p = ((T.find p).1, 0) := by rw [← hc]
    have hinf : ∀ vd, infoV T p vd = .agg #[.int .i64 (T.nd (T.find p).1).kind, .int .i64 (T.nd (T.find p).1).mode, .int .i64 (T.nd (T.find p).1).uid, .int .i64 (T.nd (T.find p).1).gid, .int .i64 (T.nd (T.find p).1).mtime, .string (T.nd (T.find p).1).link, vd, .int .i64 (cnt T.paths (T.find p).1 : Nat)] := fun vd => by
      unfold infoV
      rw [if_pos hc]
    have hok := hW.ndok (hW.lt _ _ hj)
    rw [hfd] at kf
    simp only [hinf, hc, true_implies]
    clear hinf
    generalize (T.find p).1 = n at *
    simp only [fv, if_pos, ptrv] at kf
    have hdl := son_size (T.nd n).xs
    have hds : (strOfNums (T.nd n).xs).size ≤ 4096 := by rw [hdl]; have := hok.2.1; have := hok.2.2.1; omega
    rw [← hdl]
    have hnd := Lib.hid (fun W (h : RepP F K W tb T ad mb) => (h.node _ _ hj).1)
    obtain ⟨D, hD⟩ : ∃ D, strOfNums (T.nd n).xs = D := ⟨_, rfl⟩
    have kk := Lib.hid (fun W (h : RepP F K W tb T ad mb) => show W.cell? ⟨ad n, 6, none⟩ = some (.string D) from by rw [← hD]; exact (h.node _ _ hj).1.cell rfl)
    rw [hD] at hds ⊢
    obtain ⟨v0, hv0⟩ : ∃ v, (T.nd n).kind = v := ⟨_, rfl⟩
    obtain ⟨v1, hv1⟩ : ∃ v, (T.nd n).mode = v := ⟨_, rfl⟩
    obtain ⟨v2, hv2⟩ : ∃ v, (T.nd n).uid = v := ⟨_, rfl⟩
    obtain ⟨v3, hv3⟩ : ∃ v, (T.nd n).gid = v := ⟨_, rfl⟩
    obtain ⟨v4, hv4⟩ : ∃ v, (T.nd n).mtime = v := ⟨_, rfl⟩
    obtain ⟨v5, hv5⟩ : ∃ v, (T.nd n).link = v := ⟨_, rfl⟩
    obtain ⟨v8, hv8⟩ : ∃ v : Int, ((cnt T.paths n : Nat) : Int) = v := ⟨_, rfl⟩
    simp only [hv0, hv1, hv2, hv3, hv4, hv5, hv8]
    have HV0 := Lib.hid hv0
    have HV1 := Lib.hid hv1
    have HV2 := Lib.hid hv2
    have HV3 := Lib.hid hv3
    have HV4 := Lib.hid hv4
    have HV5 := Lib.hid hv5
    have HV8 := Lib.hid hv8
    clear hfd hc hok hdl hD hv0 hv1 hv2 hv3 hv4 hv5 hv8
    go_enter Tryz.func41, Tryz.ntmps41
    go_wp2_with (first
      | (go_at_call 69; refine (kf.out _ (HR.out.later hb0.out)).mono ?_; rintro e w1 ⟨rfl, hb1⟩; have hR1 := Lib.hid ((HR.out.later hb0.out).later hb1); have t0 := kk.out w1 hR1.out)
      | (at_builtin; refine Lib.wpList_append_own_string _ rfl _ _ 36 9 rfl w.heap.size 5 i0 Tryz.underlying36 Tryz.underlying9 hi hz0 hz1 hz2 (.slice none 0 0) 0 [] rfl (World.ownsRow_nil _ _ _ _) D rfl (by unfold maxLen; omega) (by omega) (bthen hb0.out hb1).size ?_; intro vd w2 hown hgrow _))
    have hB2 : Below w.heap.size w w2 := (bthen hb0.out hb1).grown hgrow (bthen hb0.out hb1).size (fun k hk => by simp [Value.ownBlock] at hk)
    have hgB : Below w1.heap.size w1 w2 := ⟨hgrow.os, hgrow.tape, hgrow.output, hgrow.size, fun k hk => hgrow.block k hk (by simp [Value.ownBlock])⟩
    have hR2 := Lib.hid (hR1.out.later hgB)
    have hbx := Lib.hid ((HB.out.later hb1).later hgB)
    have hn2 := Lib.hid (hnd.out w2 hR2.out)
    have n0 : w2.cell? ⟨ad n, 0, none⟩ = some (.int .i64 v0) := by rw [← HV0.out]; exact hn2.out.cell rfl
    have n1 : w2.cell? ⟨ad n, 1, none⟩ = some (.int .i64 v1) := by rw [← HV1.out]; exact hn2.out.cell rfl
    have n2 : w2.cell? ⟨ad n, 2, none⟩ = some (.int .i64 v2) := by rw [← HV2.out]; exact hn2.out.cell rfl
    have n3 : w2.cell? ⟨ad n, 3, none⟩ = some (.int .i64 v3) := by rw [← HV3.out]; exact hn2.out.cell rfl
    have n4 : w2.cell? ⟨ad n, 4, none⟩ = some (.int .i64 v4) := by rw [← HV4.out]; exact hn2.out.cell rfl
    have n5 : w2.cell? ⟨ad n, 5, none⟩ = some (.string v5) := by rw [← HV5.out]; exact hn2.out.cell rfl
    have n8 : w2.cell? ⟨ad n, 8, none⟩ = some (.int .i64 v8) := by rw [← HV8.out]; exact hn2.out.cell rfl
    obtain ⟨A2, c2, rfl⟩ := row_slice hown
    have hbo := Lib.hid (fun k hk => show k ≠ w.heap.size from fun e => by
      obtain ⟨cs, hcs⟩ := own_block13 hown (k := k) hk
      have := hbx.out
      unfold BX at this
      rw [e, this] at hcs
      cases hcs)
    have hown3 : w2.ownsRow w.heap.size 5 1 (.slice A2 D.size c2) D.size (Lib.strCells D) := by have := hown; simpa using this
    clear t0 hown hgrow
    go_still_tail 18, (by kernel_rfl)
    change wpList _ _ _ _ _ w2.drew
    have r0 : w2.cell? ⟨w.heap.size, 0, none⟩ = some (.int .i64 0) := hbx.out.cell rfl
    have e0 : w2.frozen? ⟨w.heap.size, 0, none⟩ = false := hbx.out.free 0
    have r1 : w2.cell? ⟨w.heap.size, 1, none⟩ = some (.int .i64 0) := hbx.out.cell rfl
    have e1 : w2.frozen? ⟨w.heap.size, 1, none⟩ = false := hbx.out.free 1
    have r2 : w2.cell? ⟨w.heap.size, 2, none⟩ = some (.int .i64 0) := hbx.out.cell rfl
    have e2 : w2.frozen? ⟨w.heap.size, 2, none⟩ = false := hbx.out.free 2
    have r3 : w2.cell? ⟨w.heap.size, 3, none⟩ = some (.int .i64 0) := hbx.out.cell rfl
    have e3 : w2.frozen? ⟨w.heap.size, 3, none⟩ = false := hbx.out.free 3
    have r4 : w2.cell? ⟨w.heap.size, 4, none⟩ = some (.int .i64 0) := hbx.out.cell rfl
    have e4 : w2.frozen? ⟨w.heap.size, 4, none⟩ = false := hbx.out.free 4
    have r5 : w2.cell? ⟨w.heap.size, 5, none⟩ = some (.string ⟨#[]⟩) := hbx.out.cell rfl
    have e5 : w2.frozen? ⟨w.heap.size, 5, none⟩ = false := hbx.out.free 5
    have r6 : w2.cell? ⟨w.heap.size, 6, none⟩ = some (.slice none 0 0) := hbx.out.cell rfl
    have e6 : w2.frozen? ⟨w.heap.size, 6, none⟩ = false := hbx.out.free 6
    have r7 : w2.cell? ⟨w.heap.size, 7, none⟩ = some (.int .i64 0) := hbx.out.cell rfl
    have e7 : w2.frozen? ⟨w.heap.size, 7, none⟩ = false := hbx.out.free 7
    have q0 : w2.drew.cell? ⟨w.heap.size, 0, none⟩ = some (.int .i64 0) := hbx.out.cell rfl
    have f0 : w2.drew.frozen? ⟨w.heap.size, 0, none⟩ = false := hbx.out.free 0
    have q1 : w2.drew.cell? ⟨w.heap.size, 1, none⟩ = some (.int .i64 0) := hbx.out.cell rfl
    have f1 : w2.drew.frozen? ⟨w.heap.size, 1, none⟩ = false := hbx.out.free 1
    have q2 : w2.drew.cell? ⟨w.heap.size, 2, none⟩ = some (.int .i64 0) := hbx.out.cell rfl
    have f2 : w2.drew.frozen? ⟨w.heap.size, 2, none⟩ = false := hbx.out.free 2
    have q3 : w2.drew.cell? ⟨w.heap.size, 3, none⟩ = some (.int .i64 0) := hbx.out.cell rfl
    have f3 : w2.drew.frozen? ⟨w.heap.size, 3, none⟩ = false := hbx.out.free 3
    have q4 : w2.drew.cell? ⟨w.heap.size, 4, none⟩ = some (.int .i64 0) := hbx.out.cell rfl
    have f4 : w2.drew.frozen? ⟨w.heap.size, 4, none⟩ = false := hbx.out.free 4
    have q5 : w2.drew.cell? ⟨w.heap.size, 5, none⟩ = some (.string ⟨#[]⟩) := hbx.out.cell rfl
    have f5 : w2.drew.frozen? ⟨w.heap.size, 5, none⟩ = false := hbx.out.free 5
    have q6 : w2.drew.cell? ⟨w.heap.size, 6, none⟩ = some (.slice none 0 0) := hbx.out.cell rfl
    have f6 : w2.drew.frozen? ⟨w.heap.size, 6, none⟩ = false := hbx.out.free 6
    have q7 : w2.drew.cell? ⟨w.heap.size, 7, none⟩ = some (.int .i64 0) := hbx.out.cell rfl
    have f7 : w2.drew.frozen? ⟨w.heap.size, 7, none⟩ = false := hbx.out.free 7
    obtain ⟨X, hX⟩ : ∃ X, X = ((((((((w2.setCell ⟨w.heap.size, 0, none⟩ (.int .i64 v0)).setCell ⟨w.heap.size, 1, none⟩ (.int .i64 v1)).setCell ⟨w.heap.size, 2, none⟩ (.int .i64 v2)).setCell ⟨w.heap.size, 3, none⟩ (.int .i64 v3)).setCell ⟨w.heap.size, 4, none⟩ (.int .i64 v4)).setCell ⟨w.heap.size, 5, none⟩ (.string v5)).setCell ⟨w.heap.size, 6, none⟩ (.slice A2 D.size c2)).setCell ⟨w.heap.size, 7, none⟩ (.int .i64 v8)) := ⟨_, rfl⟩
    have HX : Hid (BX X w.heap.size 92 #[.int .i64 v0, .int .i64 v1, .int .i64 v2, .int .i64 v3, .int .i64 v4, .string v5, .slice A2 D.size c2, .int .i64 v8]) := by rw [hX]; exact ((((((((hbx.out.set 0 (.int .i64 v0)).set 1 (.int .i64 v1)).set 2 (.int .i64 v2)).set 3 (.int .i64 v3)).set 4 (.int .i64 v4)).set 5 (.string v5)).set 6 (.slice A2 D.size c2)).set 7 (.int .i64 v8))
    have HBX : Hid (Below w.heap.size w X) := by rw [hX]; exact ((((((((hB2.setCell (p := ⟨w.heap.size, 0, none⟩) (by simp) _).setCell (p := ⟨w.heap.size, 1, none⟩) (by simp) _).setCell (p := ⟨w.heap.size, 2, none⟩) (by simp) _).setCell (p := ⟨w.heap.size, 3, none⟩) (by simp) _).setCell (p := ⟨w.heap.size, 4, none⟩) (by simp) _).setCell (p := ⟨w.heap.size, 5, none⟩) (by simp) _).setCell (p := ⟨w.heap.size, 6, none⟩) (by simp) _).setCell (p := ⟨w.heap.size, 7, none⟩) (by simp) _)
    have HOX : Hid (X.ownsRow w.heap.size 5 1 (.slice A2 D.size c2) D.size (Lib.strCells D)) := by rw [hX]; exact (own_keep13 (own_keep13 (own_keep13 (own_keep13 (own_keep13 (own_keep13 (own_keep13 (own_keep13 hown3 fun k hk => heap_setCell_other _ ⟨w.heap.size, 0, none⟩ _ _ (hbo.out k (by simpa [Value.ownBlock] using hk))) fun k hk => heap_setCell_other _ ⟨w.heap.size, 1, none⟩ _ _ (hbo.out k (by simpa [Value.ownBlock] using hk))) fun k hk => heap_setCell_other _ ⟨w.heap.size, 2, none⟩ _ _ (hbo.out k (by simpa [Value.ownBlock] using hk))) fun k hk => heap_setCell_other _ ⟨w.heap.size, 3, none⟩ _ _ (hbo.out k (by simpa [Value.ownBlock] using hk))) fun k hk => heap_setCell_other _ ⟨w.heap.size, 4, none⟩ _ _ (hbo.out k (by simpa [Value.ownBlock] using hk))) fun k hk => heap_setCell_other _ ⟨w.heap.size, 5, none⟩ _ _ (hbo.out k (by simpa [Value.ownBlock] using hk))) fun k hk => heap_setCell_other _ ⟨w.heap.size, 6, none⟩ _ _ (hbo.out k (by simpa [Value.ownBlock] using hk))) fun k hk => heap_setCell_other _ ⟨w.heap.size, 7, none⟩ _ _ (hbo.out k (by simpa [Value.ownBlock] using hk)))
    have HXE := Lib.hid hX
    clear hX hown3 n0 n1 n2 n3 n4 n5 n8
    go_wp2
    rw [← HXE.out]
    have s0 : X.cell? ⟨w.heap.size, 0, none⟩ = some (.int .i64 v0) := HX.out.cell rfl
    have s1 : X.cell? ⟨w.heap.size, 1, none⟩ = some (.int .i64 v1) := HX.out.cell rfl
    have s2 : X.cell? ⟨w.heap.size, 2, none⟩ = some (.int .i64 v2) := HX.out.cell rfl
    have s3 : X.cell? ⟨w.heap.size, 3, none⟩ = some (.int .i64 v3) := HX.out.cell rfl
    have s4 : X.cell? ⟨w.heap.size, 4, none⟩ = some (.int .i64 v4) := HX.out.cell rfl
    have s5 : X.cell? ⟨w.heap.size, 5, none⟩ = some (.string v5) := HX.out.cell rfl
    have s6 : X.cell? ⟨w.heap.size, 6, none⟩ = some (.slice A2 D.size c2) := HX.out.cell rfl
    have s7 : X.cell? ⟨w.heap.size, 7, none⟩ = some (.int .i64 v8) := HX.out.cell rfl
    refine bodyPost_ret (v := .tuple #[.agg #[.int .i64 v0, .int .i64 v1, .int .i64 v2, .int .i64 v3, .int .i64 v4, .string v5, .slice A2 D.size c2, .int .i64 v8], .int .i64 0]) (by simp [results, Tryz.f41, go_sem, s0, s1, s2, s3, s4, s5, s6, s7]) rfl ?_
    exact ⟨_, rfl, HOX.out, below_drewN HBX.out 1⟩
  · have hinf : ∀ vd, infoV T p vd = .agg #[.int .i64 0, .int .i64 0, .int .i64 0, .int .i64 0, .int .i64 0, .string ⟨#[]⟩, .slice none 0 0, .int .i64 0] := fun vd => by
      unfold infoV
      rw [if_neg hc]
    simp only [hinf, hc, false_implies]
    clear hinf
    generalize T.find p = x at *
    obtain ⟨j, z⟩ := x
    simp only at hc kf ⊢
    simp only [fv, if_neg hc, ptrv] at kf
    have g : (z != 0) = true := by simp [hc]
    clear hc
    go_enter Tryz.func41, Tryz.ntmps41
    go_wp2_with (go_at_call 69; refine (kf.out _ (HR.out.later hb0.out)).mono ?_; rintro e w1 ⟨rfl, hb1⟩; have hbx := Lib.hid (HB.out.later hb1); have q0 : w1.cell? ⟨w.heap.size, 0, none⟩ = some (.int .i64 0) := hbx.out.cell rfl; have q1 : w1.cell? ⟨w.heap.size, 1, none⟩ = some (.int .i64 0) := hbx.out.cell rfl; have q2 : w1.cell? ⟨w.heap.size, 2, none⟩ = some (.int .i64 0) := hbx.out.cell rfl; have q3 : w1.cell? ⟨w.heap.size, 3, none⟩ = some (.int .i64 0) := hbx.out.cell rfl; have q4 : w1.cell? ⟨w.heap.size, 4, none⟩ = some (.int .i64 0) := hbx.out.cell rfl; have q5 : w1.cell? ⟨w.heap.size, 5, none⟩ = some (.string ⟨#[]⟩) := hbx.out.cell rfl; have q6 : w1.cell? ⟨w.heap.size, 6, none⟩ = some (.slice none 0 0) := hbx.out.cell rfl; have q7 : w1.cell? ⟨w.heap.size, 7, none⟩ = some (.int .i64 0) := hbx.out.cell rfl; have f0 := hbx.out.free 0; have f1 := hbx.out.free 1; have f2 := hbx.out.free 2; have f3 := hbx.out.free 3; have f4 := hbx.out.free 4; have f5 := hbx.out.free 5; have f6 := hbx.out.free 6; have f7 := hbx.out.free 7)
    refine bodyPost_ret (v := .tuple #[.agg #[.int .i64 0, .int .i64 0, .int .i64 0, .int .i64 0, .int .i64 0, .string ⟨#[]⟩, .slice none 0 0, .int .i64 0], .int .i64 z]) (by simp [results, Tryz.f41, go_sem, q0, q1, q2, q3, q4, q5, q6, q7]) rfl ?_
    have HB0 := bthen hb0.out hb1
    exact ⟨.slice none 0 0, rfl, trivial, ((((((((HB0.setCell (p := ⟨w.heap.size, 0, none⟩) (by simp) _).setCell (p := ⟨w.heap.size, 1, none⟩) (by simp) _).setCell (p := ⟨w.heap.size, 2, none⟩) (by simp) _).setCell (p := ⟨w.heap.size, 3, none⟩) (by simp) _).setCell (p := ⟨w.heap.size, 4, none⟩) (by simp) _).setCell (p := ⟨w.heap.size, 5, none⟩) (by simp) _).setCell (p := ⟨w.heap.size, 6, none⟩) (by simp) _).setCell (p := ⟨w.heap.size, 7, none⟩) (by simp) _)⟩
end
end Go.Proofs.YthgbncpiehcghaaGreatDoor
/- WALKS OF LAYER 13, NINETEENTH PART: Clone; a tree that nobody made. -/
namespace Go.Proofs.YthgbncpiehcghaaGreatDoor
set_option linter.unusedVariables false
open Go Go.RowKit Go.Maps
set_option maxRecDepth 100000
set_option maxHeartbeats 1000000
open Nt (Tr Nd WF Ps Path at_ cnt used)
section
variable {w W W' : World} {F : Nat → Prop} {K tb : Nat} {T : Tr} {ad mb : Nat → Nat}
theorem clone_rep {z : Nat} (hW : WF T K) (hK : K ≤ 100000) (hR : RepP F K w tb T ad mb) (hz : w.heap.size = z) :
    Calls Tryz.prog 88 #[.pointer (some ⟨ad 0, 0, none⟩)] w fun e w' => ∃ C0, e = .returned (.pointer (some ⟨C0, 0, none⟩)) ∧
      (∀ W' tb', Below w'.heap.size w' W' → BX W' tb' 112 (TC T C0 T.usedN T.usedB) → z ≤ tb' → Rep (fun k => False ∨ (z ≤ k ∧ k < W'.heap.size)) K W' tb' T) ∧ Below z w w' := by
  subst hz
  refine (clone_any hW hK hR).mono ?_
  rintro e w' ⟨c, nm, L, Dn, v, rfl, hc, h0⟩
  exact ⟨c 0, rfl, fun W' tb' hb ht hl => (hc.later hb).rep hW h0 ht hl, hc.low⟩
theorem tclone_any (hW : WF T K) (hK : K ≤ 100000) (hR : RepP F K w tb T ad mb) :
    Calls Tryz.prog 40 #[.pointer (some ⟨tb, 0, none⟩)] w fun e w' => ∃ tb', e = .returned (.pointer (some ⟨tb', 0, none⟩)) ∧ w.heap.size ≤ tb' ∧ Rep (Grow (fun _ => False) w w') K w' tb' T ∧ Below w.heap.size w w' := by
  have HR := Lib.hid hR
  have km := Lib.hid (made_any w tb _ (ad 0) hR.tree rfl)
  have kc := Lib.hid (fun W z (hz : W.heap.size = z) (h : RepP F K W tb T ad mb) => clone_rep hW hK h hz)
  have HDS := Lib.hid (show w.drew.heap.size = w.heap.size from rfl)
  obtain ⟨a1, ha1⟩ : ∃ a : Int, T.room = a := ⟨_, rfl⟩
  obtain ⟨a2, ha2⟩ : ∃ a : Int, T.vol = a := ⟨_, rfl⟩
  obtain ⟨a3, ha3⟩ : ∃ a : Int, ((T.usedN : Nat) : Int) = a := ⟨_, rfl⟩
  obtain ⟨a4, ha4⟩ : ∃ a : Int, ((T.usedB : Nat) : Int) = a := ⟨_, rfl⟩
  have HA := Lib.hid (fun C : Nat => show TC T C T.usedN T.usedB = #[.pointer (some ⟨C, 0, none⟩), .int .i64 a1, .int .i64 a2, .int .i64 a3, .int .i64 a4] from by rw [← ha1, ← ha2, ← ha3, ← ha4])
  have ALLS := Lib.hid (fun (V : World) (h : Below w.heap.size w V) => show V.cell? ⟨tb, 0, none⟩ = some (.pointer (some ⟨ad 0, 0, none⟩)) ∧ V.cell? ⟨tb, 1, none⟩ = some (.int .i64 a1) ∧ V.cell? ⟨tb, 2, none⟩ = some (.int .i64 a2) ∧ V.cell? ⟨tb, 3, none⟩ = some (.int .i64 a3) ∧ V.cell? ⟨tb, 4, none⟩ = some (.int .i64 a4) from by
    rw [← ha1, ← ha2, ← ha3, ← ha4]
    exact ⟨(HR.out.later h).tree.cell rfl, (HR.out.later h).tree.cell rfl, (HR.out.later h).tree.cell rfl, (HR.out.later h).tree.cell rfl, (HR.out.later h).tree.cell rfl⟩)
  have HW := Lib.hid hW
  have hacc : Below w.heap.size w w := Below.refl _ _
  obtain ⟨y0, y1, y2, y3, y4⟩ := ALLS.out w hacc
  clear hR hW
  go_enter Tryz.func40, Tryz.ntmps40
  go_wp2_with (go_at_call 65; refine km.out.mono ?_; rintro e w1 ⟨rfl, rfl⟩)
  go_region_held3 (fun V => V.cell? ⟨tb, 0, none⟩ = some (.pointer (some ⟨ad 0, 0, none⟩)) ∧ V.cell? ⟨tb, 1, none⟩ = some (.int .i64 a1) ∧ V.cell? ⟨tb, 2, none⟩ = some (.int .i64 a2) ∧ V.cell? ⟨tb, 3, none⟩ = some (.int .i64 a3) ∧ V.cell? ⟨tb, 4, none⟩ = some (.int .i64 a4))
    (first | go_keep | (exact ALLS.out _ hacc))
    (first | (go_at_call 88; (with_reducible refine (kc.out _ _ HDS.out (HR.out.later hacc.drew)).mono ?_); rintro e wn ⟨C0, rfl, hrep, hbn⟩; replace hacc : Below w.heap.size w wn := hacc.drew.trans hbn))
  all_goals
    go_wp2
    go_ret
    have hb2 := below_new wn (.cells #[.pointer (some ⟨C0, 0, none⟩), .int .i64 a1, .int .i64 a2, .int .i64 a3, .int .i64 a4] 112)
    refine ⟨wn.heap.size, rfl, hacc.size, hrep _ _ hb2 ?_ hacc.size, bthen hacc hb2⟩
    rw [HA.out]
    exact BX.new _ _ _
end
end Go.Proofs.YthgbncpiehcghaaGreatDoor
/- WALKS OF LAYER 13, TWENTY-FIRST PART: a tree and its steps; alive's model. -/
namespace Go.Proofs.YthgbncpiehcghaaGreatDoor
set_option linter.unusedVariables false
open Go Go.RowKit Go.Maps
set_option maxRecDepth 100000
set_option maxHeartbeats 4000000
open Nt (Tr Nd WF Ps Path at_ cnt used)
/-- A TREE T AT tb, BUILT SINCE w0. -/
structure At (w0 w : World) (tb : Nat) (T : Tr) (K : Nat) : Prop where
  wf : WF T K
  low : Below w0.heap.size w0 w
  rep : ∃ F ad mb, (∀ k, F k → w0.heap.size ≤ k ∧ k < w.heap.size) ∧ RepP F K w tb T ad mb
section
variable {w0 w w' : World} {tb K : Nat} {T : Tr}
theorem At.later (h : At w0 w tb T K) (hb : Below w.heap.size w w') : At w0 w' tb T K :=
  let ⟨F, ad, mb, hF, hR⟩ := h.rep
  ⟨h.wf, h.low.trans (hb.mono h.low.size), F, ad, mb, fun k hk => ⟨(hF k hk).1, Nat.lt_of_lt_of_le (hF k hk).2 hb.size⟩, hR.later hb⟩
theorem At.of_done {F : Nat → Prop} {r : Tr × Int} {e : Ending} (h : At w0 w tb T K) (hF : ∀ k, F k → w0.heap.size ≤ k ∧ k < w.heap.size) (hw : WF r.1 (K + 301)) (hd : Done F K w w' tb r e) : e = .returned (.int .i64 r.2) ∧ At w0 w' tb r.1 (K + 301) := by
  obtain ⟨rfl, ⟨ad, mb, hR⟩, hk⟩ := hd
  refine ⟨rfl, hw, h.low.trans (hk.below (fun k hk => (hF k hk).1) h.low.size), Grow F w w', ad, mb, ?_, hR⟩
  rintro k (h1 | h1)
  · exact ⟨(hF k h1).1, Nat.lt_of_lt_of_le (hF k h1).2 hk.size⟩
  · exact ⟨Nat.le_trans h.low.size h1.1, h1.2⟩
theorem mk_small {p : ByteArray} {x : Nd} (hE : T.mkE p x = 0) (hk : x.kind = 1 := by rfl) : x.n ≤ 4096 := by
  unfold Tr.mkE at hE
  by_cases hf : T.fresh p = 0
  · rw [if_neg (by simp [hf])] at hE
    by_cases hm : Nt.metaOk x.mode x.uid x.gid x.mtime = false
    · rw [if_pos hm] at hE
      cases hE
    · rw [if_neg hm] at hE
      by_cases h4 : x.kind = 1 ∧ 4096 < x.n
      · rw [if_pos h4] at hE
        cases hE
      · exact Nat.le_of_not_lt fun h5 => h4 ⟨hk, h5⟩
  · rw [if_pos hf] at hE
    exact absurd hE hf
theorem at_mkdir (h : At w0 w tb T K) (hK : K ≤ 100000) (p : ByteArray) (hp : p.size ≤ 1000000) (a b c d : Int) :
    Calls Tryz.prog 44 #[.pointer (some ⟨tb, 0, none⟩), .string p, .agg #[.int .i64 a, .int .i64 b, .int .i64 c, .int .i64 d]] w fun e w' => e = .returned (.int .i64 (T.mk' p ⟨4, a, b, c, d, ⟨#[]⟩, none, 0, 0, []⟩).2) ∧ At w0 w' tb (T.mk' p ⟨4, a, b, c, d, ⟨#[]⟩, none, 0, 0, []⟩).1 (K + 301) := by
  obtain ⟨F, ad, mb, hF, hR⟩ := h.rep
  exact (mkdir_any h.wf hK hR p hp a b c d).mono fun e w' hd => h.of_done hF (h.wf.mk' fun _ => ⟨.inr (.inr rfl), rfl, Nat.zero_le _, fun _ => rfl, fun _ => rfl⟩) hd
theorem at_create (h : At w0 w tb T K) (hK : K ≤ 100000) (p : ByteArray) (hp : p.size ≤ 1000000) (a b c d : Int) (A : Option Addr) (n k : Nat) (xs : List Int) (hd : RB w w.heap.size A n xs) (hn : n ≤ 1000000) :
    Calls Tryz.prog 48 #[.pointer (some ⟨tb, 0, none⟩), .string p, .agg #[.int .i64 a, .int .i64 b, .int .i64 c, .int .i64 d], .slice A n k] w fun e w' => e = .returned (.int .i64 (T.mk' p ⟨1, a, b, c, d, ⟨#[]⟩, A, n, k, xs⟩).2) ∧ At w0 w' tb (T.mk' p ⟨1, a, b, c, d, ⟨#[]⟩, A, n, k, xs⟩).1 (K + 301) := by
  obtain ⟨F, ad, mb, hF, hR⟩ := h.rep
  exact (create_any h.wf hK hR p hp a b c d A n k xs hd hn).mono fun e w' hd2 => h.of_done hF (h.wf.mk' fun hE => ⟨.inl rfl, hd.1, mk_small hE, fun h => absurd rfl h, fun _ => rfl⟩) hd2
theorem at_link (h : At w0 w tb T K) (hK : K ≤ 100000) (p old : ByteArray) (hp : p.size ≤ 1000000) (ho : old.size ≤ 1000000) :
    Calls Tryz.prog 49 #[.pointer (some ⟨tb, 0, none⟩), .string p, .string old] w fun e w' => e = .returned (.int .i64 (T.lnk p old).2) ∧ At w0 w' tb (T.lnk p old).1 (K + 301) := by
  obtain ⟨F, ad, mb, hF, hR⟩ := h.rep
  exact (link_any h.wf hK hR p old hp ho).mono fun e w' hd => h.of_done hF (h.wf.lnk' p old) hd
theorem at_remove (h : At w0 w tb T K) (hK : K ≤ 100000) (p : ByteArray) (hp : p.size ≤ 1000000) :
    Calls Tryz.prog 51 #[.pointer (some ⟨tb, 0, none⟩), .string p] w fun e w' => e = .returned (.int .i64 (T.rm p).2) ∧ At w0 w' tb (T.rm p).1 (K + 301) := by
  obtain ⟨F, ad, mb, hF, hR⟩ := h.rep
  exact (remove_any h.wf hK hR p hp).mono fun e w' hd => h.of_done hF (h.wf.rm' p) hd
theorem at_rename (h : At w0 w tb T K) (hK : K ≤ 100000) (f t : ByteArray) (hf : f.size ≤ 100000) (ht : t.size ≤ 100000) :
    Calls Tryz.prog 42 #[.pointer (some ⟨tb, 0, none⟩), .string f, .string t] w fun e w' => e = .returned (.int .i64 (T.rn f t).2) ∧ At w0 w' tb (T.rn f t).1 (K + 301) := by
  obtain ⟨F, ad, mb, hF, hR⟩ := h.rep
  exact (rename_any h.wf hK hR f t hf ht).mono fun e w' hd => h.of_done hF (h.wf.rn' f t) hd
theorem at_clear (h : At w0 w tb T K) (hK : K ≤ 100000) (p : ByteArray) (hp : p.size ≤ 1000000) :
    Calls Tryz.prog 62 #[.pointer (some ⟨tb, 0, none⟩), .string p] w fun e w' => e = .returned (.int .i64 (T.clr p).2) ∧ At w0 w' tb (T.clr p).1 (K + 301) := by
  obtain ⟨F, ad, mb, hF, hR⟩ := h.rep
  exact (clear_any h.wf hK hR p hp).mono fun e w' hd => h.of_done hF (h.wf.clr' p) hd
theorem at_set (h : At w0 w tb T K) (hK : K ≤ 100000) (p : ByteArray) (hp : p.size ≤ 1000000) (a b c d : Int) :
    Calls Tryz.prog 61 #[.pointer (some ⟨tb, 0, none⟩), .string p, .agg #[.int .i64 a, .int .i64 b, .int .i64 c, .int .i64 d]] w fun e w' => e = .returned (.int .i64 (T.st p a b c d).2) ∧ At w0 w' tb (T.st p a b c d).1 (K + 301) := by
  obtain ⟨F, ad, mb, hF, hR⟩ := h.rep
  exact (set_any h.wf hK hR p hp a b c d).mono fun e w' hd => h.of_done hF (h.wf.st' p a b c d) hd
theorem at_clone (h : At w0 w tb T K) (hK : K ≤ 100000) :
    Calls Tryz.prog 40 #[.pointer (some ⟨tb, 0, none⟩)] w fun e w' => ∃ tb', e = .returned (.pointer (some ⟨tb', 0, none⟩)) ∧ At w0 w' tb' T K ∧ At w0 w' tb T K := by
  obtain ⟨F, ad, mb, hF, hR⟩ := h.rep
  refine (tclone_any h.wf hK hR).mono ?_
  rintro e w' ⟨tb', rfl, hl, ⟨ad', mb', hR'⟩, hb⟩
  refine ⟨tb', rfl, ⟨h.wf, h.low.trans (hb.mono h.low.size), _, ad', mb', ?_, hR'⟩, h.later hb⟩
  rintro k (h1 | h1)
  · exact h1.elim
  · exact ⟨Nat.le_trans h.low.size h1.1, h1.2⟩
theorem at_get (h : At w0 w tb T K) (hK : K ≤ 100000) (p : ByteArray) (hp : p.size ≤ 1000000) :
    Calls Tryz.prog 41 #[.pointer (some ⟨tb, 0, none⟩), .string p] w fun e w' => ∃ vd, e = .returned (.tuple #[infoV T p vd, .int .i64 (T.find p).2]) ∧
      ((T.find p).2 = 0 → w'.ownsRow w.heap.size 5 1 vd (T.nd (T.find p).1).xs.length (Lib.strCells (strOfNums (T.nd (T.find p).1).xs))) ∧ Below w.heap.size w w' := by
  obtain ⟨F, ad, mb, hF, hR⟩ := h.rep
  exact get_any h.wf hK hR p hp
theorem at_list (h : At w0 w tb T K) (hK : K ≤ 100000) (p : ByteArray) (hp : p.size ≤ 1000000) :
    Calls Tryz.prog 50 #[.pointer (some ⟨tb, 0, none⟩), .string p] w fun e w' => ∃ v L, e = .returned (.tuple #[v, .int .i64 (lsE T p)]) ∧ OS w' w.heap.size v L ∧ (lsE T p = 0 → IsKids T (Nt.nms p) L) ∧ (lsE T p ≠ 0 → L = []) ∧ Below w.heap.size w w' := by
  obtain ⟨F, ad, mb, hF, hR⟩ := h.rep
  exact list_any h.wf hK hR p hp
theorem at_used (h : At w0 w tb T K) : Calls Tryz.prog 15 #[.pointer (some ⟨tb, 0, none⟩)] w fun e w' => e = .returned (.tuple #[.int .i64 (T.usedN : Nat), .int .i64 (T.usedB : Nat)]) ∧ Below w.heap.size w w' := by
  obtain ⟨F, ad, mb, hF, hR⟩ := h.rep
  exact used_any hR
theorem at_new (w : World) (a b : Int) (ha : a ≤ 9223372036854775807) (hb : b ≤ 9223372036854775807) : Calls Tryz.prog 7 #[.int .i64 a, .int .i64 b] w fun e w' => ∃ tb, e = .returned (.pointer (some ⟨tb, 0, none⟩)) ∧ At w w' tb (Nt.new a b) 1 := by
  refine (new_any w a b).mono ?_
  rintro e w' ⟨rfl, ⟨ad, mb, hR⟩, hl⟩
  refine ⟨_, rfl, Nt.WF.new a b ha hb, hl, _, ad, mb, ?_, hR⟩
  rintro k (h1 | h1)
  · exact h1.elim
  · exact h1
end
abbrev sa : ByteArray := ⟨#[97]⟩
abbrev sab : ByteArray := ⟨#[97, 47, 98]⟩
abbrev sc : ByteArray := ⟨#[99]⟩
abbrev sd : ByteArray := ⟨#[100]⟩
abbrev nA : Nd := ⟨4, 7, 0, 0, 0, ⟨#[]⟩, none, 0, 0, []⟩
abbrev nB (A : Option Addr) (k : Nat) : Nd := ⟨1, 0, 0, 0, 0, ⟨#[]⟩, A, 2, k, [104, 105]⟩
def S1 : Tr := (Nt.new 9 100).mk1 sa nA
def S2 (A : Option Addr) (k : Nat) : Tr := S1.mk1 sab (nB A k)
def S3 (A : Option Addr) (k : Nat) : Tr := (S2 A k).lnk1 sc 2
theorem al1 : (Nt.new 9 100).mk' sa nA = (S1, 0) := by kernel_rfl
theorem al2 (A : Option Addr) (k : Nat) : S1.mk' sab (nB A k) = (S2 A k, 0) := by kernel_rfl
theorem al3 (A : Option Addr) (k : Nat) : (S2 A k).lnk sc sab = (S3 A k, 0) := by kernel_rfl
theorem al4 (A : Option Addr) (k : Nat) : (S3 A k).rm sa = (S3 A k, 18) := by kernel_rfl
theorem al5 (A : Option Addr) (k : Nat) : (S3 A k).rn sc sd = ((S3 A k).rn1 [sc] [sd], 0) := by kernel_rfl
theorem al6 (A : Option Addr) (k : Nat) : (S3 A k).usedN = 2 ∧ (S3 A k).usedB = 2 := ⟨by kernel_rfl, by kernel_rfl⟩
theorem al7 (A : Option Addr) (k : Nat) : (S3 A k).find sc = (2, 0) ∧ (S3 A k).find sab = (2, 0) := ⟨by kernel_rfl, by kernel_rfl⟩
theorem al8 (A : Option Addr) (k : Nat) : (S3 A k).nd 2 = nB A k := by kernel_rfl
theorem al9 (A : Option Addr) (k : Nat) : cnt (S3 A k).paths 2 = 2 := by kernel_rfl
theorem al10 (A : Option Addr) (k : Nat) : lsE (S3 A k) ⟨#[]⟩ = 0 := by kernel_rfl
theorem al11 (A : Option Addr) (k : Nat) : (S3 A k).paths = [([], 0), ([sa], 1), ([sa, ⟨#[98]⟩], 2), ([sc], 2)] := by kernel_rfl
/-- A step's cells. -/
abbrev StC (kd : Int) (p q : ByteArray) (a b c d : Int) (A : Option Addr) (n k : Nat) : Array Value := #[.int .u8 kd, .string p, .string q, .int .i64 a, .int .i64 b, .int .i64 c, .int .i64 d, .slice A n k]
end Go.Proofs.YthgbncpiehcghaaGreatDoor
