/-
  IsFleet, the program's text.
-/
import Derived.Test.YtkekanllfpdeaaaDoorIx
import Derived.Deep.RegionHeld3
import Derived.Deep.DeepCutAuto
namespace Go.Proofs.YtkekanllfpdeaaaDoor
open Go.RowKit
set_option linter.unusedVariables false

theorem containsI_any (a : Option Addr) (c : Nat) (zs : List Int) (x : Int) (w : World) (ha : IntsAt w a zs) (hl : zs.length ≤ 1000) :
    Calls Tryd.prog 149 #[.slice a zs.length c, .int .i64 x] w fun e w' => e = .returned (.bool (zs.contains x)) ∧ w' = w := by
  by_cases h0 : zs = []
  · subst h0
    exact Tryd.slices_Contains_int_empty a c x w
  · have hp : 0 < zs.length := List.length_pos_iff.2 h0
    obtain ⟨b, o, z, rfl, _, _⟩ := ha.one hp
    have h := Tryd.slices_Contains_int b o zs.length c zs x w (Nat.le_refl _) (by omega) (fun j hj => by
      obtain ⟨b', o', z', he, hc, hz⟩ := ha.one hj
      cases he
      rw [hc, List.getD_eq_getElem?_getD, hz.out]
      rfl)
    rw [List.take_length] at h
    exact h
theorem padContains {f : List Int} (h3 : f.length ≤ 3) : ∀ {L : List (List Int)}, (∀ g ∈ L, g.length = f.length) → (L.map padF).contains (padF f) = L.contains f
  | [], _ => rfl
  | g :: L, h => by
    have ih := padContains h3 (L := L) (fun x hx => h x (List.mem_cons_of_mem _ hx))
    have hg := h g (List.mem_cons_self ..)
    rw [List.map_cons, List.contains_cons, List.contains_cons, ih]
    congr 1
    by_cases e : f = g
    · subst e; rw [beq_self_eq_true, beq_self_eq_true]
    · have h1 : ¬ (padF f = padF g) := fun e2 => e (padF_inj hg.symm h3 e2)
      rw [beq_eq_false_iff_ne.2 e, beq_eq_false_iff_ne.2 h1]
def isfR (wd hi : Int) (cs f : List Int) : Bool × Int := if seaB wd hi cs = true then (fleetB wd hi cs f, 0) else (false, 1)
theorem levF_len {wd hi : Int} {cs : List Int} (hs : seaB wd hi cs = true) (z : Int) (hz : 0 ≤ z ∧ z < 33554432) : (levF wd hi cs (cs.length - 1) [[z]]).length ≤ 2500 := by
  obtain ⟨_, _, _, _, l1, l3, _⟩ := seaB_yes hs
  have k1 : okL 1 [[z]] := fun f hf => by rw [List.mem_singleton.1 hf]; exact ⟨rfl, fun y hy => by rw [List.mem_singleton.1 hy]; exact hz⟩
  have h : cs.length = 1 ∨ cs.length = 2 ∨ cs.length = 3 := by omega
  rcases h with h | h | h
  · rw [h]; show (1 : Nat) ≤ 2500; decide
  · rw [h]
    have p1 := plAt_facts (k := 1) hs (by omega)
    have := flat_len (L := [[z]]) k1 p1.2
    show ([[z]].flatMap (extF wd hi cs)).length ≤ _
    simp at this ⊢
    omega
  · rw [h]
    have p1 := plAt_facts (k := 1) hs (by omega)
    have p2 := plAt_facts (k := 2) hs (by omega)
    have a1 := flat_len (L := [[z]]) k1 p1.2
    have a2 := flat_len (okL_ext k1 p1.1) p2.2
    show (([[z]].flatMap (extF wd hi cs)).flatMap (extF wd hi cs)).length ≤ _
    rw [List.length_singleton] at a1
    exact Nat.le_trans a2 (by omega)

set_option maxRecDepth 100000 in
set_option maxHeartbeats 8000000 in
theorem implIsFleet_any (wd hi : Int) (a : Option Addr) (c : Nat) (cs : List Int) (af : Option Addr) (cf : Nat) (f : List Int) (W : World) (ha : IntsAt W a cs) (hl : cs.length ≤ 1048576) (hf : IntsAt W af f) (hfl : f.length ≤ 1048576) :
    Calls Tryd.prog 133 #[.agg #[.int .i64 wd, .int .i64 hi, .slice a cs.length c], .slice af f.length cf] W (RetB (.tuple #[.bool (isfR wd hi cs f).1, .int .i64 (isfR wd hi cs f).2]) W) := by
  obtain ⟨W0, hW0⟩ : ∃ W0, W0 = W.alloc (.cells #[.int .i64 wd, .int .i64 hi, .slice a cs.length c] 52) := ⟨_, rfl⟩
  have hB0 : Hid (Below W.heap.size W W0) := by rw [hW0]; exact hide (below_alloc _ _)
  have hX0 : Hid (SeaIn W0 W.heap.size wd hi a cs.length c) := by rw [hW0]; exact hide (seaIn_new _ _ _ _ _ _ _)
  have hA0 := hide (ha.keep hB0.out)
  have hF0 := hide (hf.keep hB0.out)
  obtain ⟨c0, c1, c2⟩ := hX0.out
  clear ha hf
  cases hs : seaB wd hi cs
  · have hR : Hid (isfR wd hi cs f = (false, 1)) := hide (by simp [isfR, hs])
    rw [hR.out]
    have HS := hide hs
    clear hs
    go_enter Tryd.func133, Tryd.ntmps133
    go_wp2_with fail
    rw [← hW0]
    clear hW0
    (try go_wp2_with fail)
    refine (implIsSea_is HS.out hA0.out hl).mono ?_
    rintro e w1 ⟨rfl, hb1⟩
    have hB1 := hide (Below.trans' hB0.out hb1)
    clear hb1 c0 c1 c2
    go_wp2_with fail
    go_ret2
    exact ⟨rfl, hB1.out⟩
  obtain ⟨w0, w1, h0, h1, l1, l3, ho⟩ := seaB_yes hs
  have HS := hide hs
  have hR : Hid (isfR wd hi cs f = (fleetB wd hi cs f, 0)) := hide (by simp [isfR, hs])
  rw [hR.out]
  obtain ⟨r, hr⟩ : ∃ r, r = fleetB wd hi cs f := ⟨_, rfl⟩
  dsimp only
  rw [← hr]
  have HR := hide hr
  clear hs hr
  by_cases hlen : f.length = cs.length
  · have hprog : Hid (r = ((plAt wd hi cs 0).contains (f.getD 0 0) && (levF wd hi cs (cs.length - 1) [[f.getD 0 0]]).contains f)) := hide (by rw [HR.out]; exact fleet_prog wd hi cs (r := cs.length - 1) (by omega) hlen)
    have hf3 : f.length ≤ 3 := by omega
    have hf1 : 1 ≤ f.length := by omega
    have hee : ((f.length : Int) == (cs.length : Int)) = true := by rw [hlen]; simp
    have hcp : 0 < cs.length := by omega
    have hfp : 0 < f.length := by omega
    go_enter Tryd.func133, Tryd.ntmps133
    go_wp2_with fail
    rw [← hW0]
    clear hW0
    (try go_wp2_with fail)
    refine (implIsSea_is HS.out hA0.out hl).mono ?_
    rintro e u1 ⟨rfl, hb1⟩
    have hB1 := hide (Below.trans' hB0.out hb1)
    have hX1 := hide (hX0.out.keep hb1)
    have hA1 := hide (hA0.out.keep hb1)
    have hF1 := hide (hF0.out.keep hb1)
    clear hb1 c0 c1 c2
    obtain ⟨c0, c1, c2⟩ := hX1.out
    obtain ⟨b1, o1, n, rfl, hcn, hgn⟩ := hA1.out.one (k := 0) (by omega)
    obtain ⟨b2, o2, z, rfl, hcz, hgz⟩ := hF1.out.one (k := 0) (by omega)
    rw [Nat.add_zero] at hcn hcz
    obtain ⟨n1, n2⟩ := okFrom_mem ho n (mem_of_get hgn.out)
    have hnk : cs.getD 0 0 = n := by rw [List.getD_eq_getElem?_getD, hgn.out]; rfl
    have hzk : f.getD 0 0 = z := by rw [List.getD_eq_getElem?_getD, hgz.out]; rfl
    obtain ⟨P, hP⟩ : ∃ P, P = plAt wd hi cs 0 := ⟨_, rfl⟩
    have hPn : Hid (plc wd hi n.toNat = P) := hide (by rw [hP]; unfold plAt; rw [hnk])
    have hpf := plAt_facts (k := 0) HS.out (by omega)
    rw [← hP] at hpf
    rw [hzk, ← hP] at hprog
    have HPF := hide hpf
    have HCP := hide (fun V => placements_any wd hi n (some ⟨b1, o1, none⟩) cs.length c V w0 w1 h0 h1 n1 n2)
    rw [hPn.out] at HCP
    have HS1 : Hid (∀ V : World, Below u1.heap.size u1 V → V.cell? ⟨W.heap.size, 0, none⟩ = some (.int .i64 wd) ∧ V.cell? ⟨W.heap.size, 1, none⟩ = some (.int .i64 hi) ∧ V.cell? ⟨W.heap.size, 2, none⟩ = some (.slice (some ⟨b1, o1, none⟩) cs.length c) ∧ V.cell? ⟨b1, o1, none⟩ = some (.int .i64 n) ∧ V.cell? ⟨b2, o2, none⟩ = some (.int .i64 z)) := hide (fun V h => ⟨cell_keep h c0, cell_keep h c1, cell_keep h c2, cell_keep h hcn, cell_keep h hcz⟩)
    have hbel : Below u1.heap.size u1 u1 := Below.refl _ _
    clear hpf hP hnk hzk
    cases hcon : P.contains z
    · have hrf : Hid (r = false) := hide (by rw [hprog.out, hcon]; rfl)
      have HCI := hide (fun (V : World) (ap : Option Addr) (cp : Nat) (h : IntsAt V ap P) => containsI_any ap cp P z V h (by have := HPF.out.2; omega))
      rw [hcon] at HCI
      clear hcon c0 c1 c2 hcn hcz
      go_wp2_with fail
      have hd : Below u1.heap.size u1 u1.drew := Below.drew (Below.refl _ _)
      refine wp_region_held_drew (S := (fun V => V.cell? ⟨W.heap.size, 0, none⟩ = some (.int .i64 wd) ∧ V.cell? ⟨W.heap.size, 1, none⟩ = some (.int .i64 hi) ∧ V.cell? ⟨W.heap.size, 2, none⟩ = some (.slice (some ⟨b1, o1, none⟩) cs.length c) ∧ V.cell? ⟨b1, o1, none⟩ = some (.int .i64 n) ∧ V.cell? ⟨b2, o2, none⟩ = some (.int .i64 z))) (by kernel_rfl) ?_ (fun hHeld => ?_)
      · (try dsimp only)
        exact HS1.out _ hd
      refine wpAnyH_take (i := 0) (oi := { dst := some 9, op := Go.Op.move (Go.Operand.tmp 1), type := 22, pos := "l09_fleet.go:75", after := #[], guard := none }) (v := ?v0) rfl (by kernel_rfl) (by kernel_rfl) (by kernel_rfl) (fun _ _ _ h => h) (Or.inl ⟨by rfl, ?hy0⟩) (by assumption) ?rest0
      case hy0 => (intro w hSw; (try dsimp only at hSw); go_simp; (try with_reducible rfl))
      (try simp only [Act.put, List.setIfInBounds_toArray, List.set_cons_zero, List.set_cons_succ])
      refine wpAnyH_take (i := 1) (oi := { dst := some 10, op := Go.Op.call { callee := Go.Callee.builtin Go.Builtin.len, args := #[Go.Operand.tmp 9], argTypes := #[22] }, type := 3, pos := "l09_fleet.go:75", after := #[{ on := 0, ground := Go.Ground.data }], guard := none }) (v := ?v1) rfl (by kernel_rfl) (by kernel_rfl) (by kernel_rfl) (fun _ _ _ h => h) (Or.inl ⟨by rfl, ?hy1⟩) (by assumption) ?rest1
      case hy1 => (intro w hSw; (try dsimp only at hSw); go_simp; (try with_reducible rfl))
      (try simp only [Act.put, List.setIfInBounds_toArray, List.set_cons_zero, List.set_cons_succ])
      refine wpAnyH_take (i := 2) (oi := { dst := some 11, op := Go.Op.fieldAddr 52 (Go.Operand.tmp 2) 2, type := 0, pos := "l09_fleet.go:75", after := #[], guard := none }) (v := ?v2) rfl (by kernel_rfl) (by kernel_rfl) (by kernel_rfl) (fun _ _ _ h => h) (Or.inl ⟨by rfl, ?hy2⟩) (by assumption) ?rest2
      case hy2 => (intro w hSw; (try dsimp only at hSw); go_simp; (try with_reducible rfl))
      (try simp only [Act.put, List.setIfInBounds_toArray, List.set_cons_zero, List.set_cons_succ])
      refine wpAnyH_take (i := 3) (oi := { dst := some 12, op := Go.Op.load 22 (Go.Operand.tmp 11), type := 22, pos := "l09_fleet.go:75", after := #[{ on := 2, ground := Go.Ground.data }], guard := none }) (v := ?v3) rfl (by kernel_rfl) (by kernel_rfl) (by kernel_rfl) (fun _ _ _ h => h) (Or.inl ⟨by rfl, ?hy3⟩) (by assumption) ?rest3
      case hy3 => (intro w hSw; (try dsimp only at hSw); go_simp; (try with_reducible rfl))
      (try simp only [Act.put, List.setIfInBounds_toArray, List.set_cons_zero, List.set_cons_succ])
      refine wpAnyH_take (i := 4) (oi := { dst := some 13, op := Go.Op.call { callee := Go.Callee.builtin Go.Builtin.len, args := #[Go.Operand.tmp 12], argTypes := #[22] }, type := 3, pos := "l09_fleet.go:75", after := #[{ on := 3, ground := Go.Ground.data }], guard := none }) (v := ?v4) rfl (by kernel_rfl) (by kernel_rfl) (by kernel_rfl) (fun _ _ _ h => h) (Or.inl ⟨by rfl, ?hy4⟩) (by assumption) ?rest4
      case hy4 => (intro w hSw; (try dsimp only at hSw); go_simp; (try with_reducible rfl))
      (try simp only [Act.put, List.setIfInBounds_toArray, List.set_cons_zero, List.set_cons_succ])
      refine wpAnyH_take (i := 5) (oi := { dst := some 14, op := Go.Op.binOp Go.BinOp.eql 3 (Go.Operand.tmp 10) (Go.Operand.tmp 13) 3, type := 4, pos := "l09_fleet.go:75", after := #[{ on := 1, ground := Go.Ground.data }, { on := 4, ground := Go.Ground.data }], guard := none }) (v := ?v5) rfl (by kernel_rfl) (by kernel_rfl) (by kernel_rfl) (fun _ _ _ h => h) (Or.inl ⟨by rfl, ?hy5⟩) (by assumption) ?rest5
      case hy5 => (intro w hSw; (try dsimp only at hSw); go_simp; (try with_reducible rfl))
      (try simp only [Act.put, List.setIfInBounds_toArray, List.set_cons_zero, List.set_cons_succ])
      refine wpAnyH_take (i := 6) (oi := { dst := some 15, op := Go.Op.move (Go.Operand.tmp 14), type := 4, pos := "l09_fleet.go:75", after := #[{ on := 5, ground := Go.Ground.data }], guard := none }) (v := ?v6) rfl (by kernel_rfl) (by kernel_rfl) (by kernel_rfl) (fun _ _ _ h => h) (Or.inl ⟨by rfl, ?hy6⟩) (by assumption) ?rest6
      case hy6 => (intro w hSw; (try dsimp only at hSw); go_simp; (try with_reducible rfl))
      (try simp only [Act.put, List.setIfInBounds_toArray, List.set_cons_zero, List.set_cons_succ])
      refine wpAnyH_take (i := 7) (oi := { dst := some 16, op := Go.Op.load 52 (Go.Operand.tmp 2), type := 52, pos := "l09_fleet.go:75", after := #[{ on := 6, ground := Go.Ground.guard }], guard := some (6, true) }) (v := ?v7) rfl (by kernel_rfl) (by kernel_rfl) (by kernel_rfl) (fun _ _ _ h => h) (Or.inl ⟨by rfl, ?hy7⟩) (by assumption) ?rest7
      case hy7 => (intro w hSw; (try dsimp only at hSw); go_simp; (try with_reducible rfl))
      (try simp only [Act.put, List.setIfInBounds_toArray, List.set_cons_zero, List.set_cons_succ])
      refine wpAnyH_take (i := 8) (oi := { dst := some 17, op := Go.Op.fieldAddr 52 (Go.Operand.tmp 2) 2, type := 0, pos := "l09_fleet.go:75", after := #[{ on := 6, ground := Go.Ground.guard }], guard := some (6, true) }) (v := ?v8) rfl (by kernel_rfl) (by kernel_rfl) (by kernel_rfl) (fun _ _ _ h => h) (Or.inl ⟨by rfl, ?hy8⟩) (by assumption) ?rest8
      case hy8 => (intro w hSw; (try dsimp only at hSw); go_simp; (try with_reducible rfl))
      (try simp only [Act.put, List.setIfInBounds_toArray, List.set_cons_zero, List.set_cons_succ])
      refine wpAnyH_take (i := 9) (oi := { dst := some 18, op := Go.Op.load 22 (Go.Operand.tmp 17), type := 22, pos := "l09_fleet.go:75", after := #[{ on := 8, ground := Go.Ground.data }, { on := 6, ground := Go.Ground.guard }], guard := some (6, true) }) (v := ?v9) rfl (by kernel_rfl) (by kernel_rfl) (by kernel_rfl) (fun _ _ _ h => h) (Or.inl ⟨by rfl, ?hy9⟩) (by assumption) ?rest9
      case hy9 => (intro w hSw; (try dsimp only at hSw); go_simp; (try with_reducible rfl))
      (try simp only [Act.put, List.setIfInBounds_toArray, List.set_cons_zero, List.set_cons_succ])
      refine wpAnyH_take (i := 10) (oi := { dst := some 19, op := Go.Op.indexAddr 22 (Go.Operand.tmp 18) (Go.Operand.const (Go.Value.int Go.IntKind.i64 0)), type := 0, pos := "l09_fleet.go:75", after := #[{ on := 9, ground := Go.Ground.data }, { on := 6, ground := Go.Ground.guard }], guard := some (6, true) }) (v := ?v10) rfl (by kernel_rfl) (by kernel_rfl) (by kernel_rfl) (fun _ _ _ h => h) (Or.inl ⟨by rfl, ?hy10⟩) (by assumption) ?rest10
      case hy10 => (intro w hSw; (try dsimp only at hSw); go_simp; (try with_reducible rfl))
      (try simp only [Act.put, List.setIfInBounds_toArray, List.set_cons_zero, List.set_cons_succ])
      refine wpAnyH_take (i := 11) (oi := { dst := some 20, op := Go.Op.load 2 (Go.Operand.tmp 19), type := 2, pos := "l09_fleet.go:75", after := #[{ on := 10, ground := Go.Ground.data }, { on := 6, ground := Go.Ground.guard }], guard := some (6, true) }) (v := ?v11) rfl (by kernel_rfl) (by kernel_rfl) (by kernel_rfl) (fun _ _ _ h => h) (Or.inl ⟨by rfl, ?hy11⟩) (by assumption) ?rest11
      case hy11 => (intro w hSw; (try dsimp only at hSw); go_simp; (try with_reducible rfl))
      (try simp only [Act.put, List.setIfInBounds_toArray, List.set_cons_zero, List.set_cons_succ])
      refine wpAnyH_take (i := 13) (oi := { dst := some 22, op := Go.Op.move (Go.Operand.tmp 1), type := 22, pos := "l09_fleet.go:75", after := #[{ on := 6, ground := Go.Ground.guard }], guard := some (6, true) }) (v := ?v13) rfl (by kernel_rfl) (by kernel_rfl) (by kernel_rfl) (fun _ _ _ h => h) (Or.inl ⟨by rfl, ?hy13⟩) (by assumption) ?rest13
      case hy13 => (intro w hSw; (try dsimp only at hSw); go_simp; (try with_reducible rfl))
      (try simp only [Act.put, List.setIfInBounds_toArray, List.set_cons_zero, List.set_cons_succ])
      refine wpAnyH_take (i := 14) (oi := { dst := some 23, op := Go.Op.indexAddr 22 (Go.Operand.tmp 22) (Go.Operand.const (Go.Value.int Go.IntKind.i64 0)), type := 0, pos := "l09_fleet.go:75", after := #[{ on := 13, ground := Go.Ground.data }, { on := 6, ground := Go.Ground.guard }], guard := some (6, true) }) (v := ?v14) rfl (by kernel_rfl) (by kernel_rfl) (by kernel_rfl) (fun _ _ _ h => h) (Or.inl ⟨by rfl, ?hy14⟩) (by assumption) ?rest14
      case hy14 => (intro w hSw; (try dsimp only at hSw); go_simp; (try with_reducible rfl))
      (try simp only [Act.put, List.setIfInBounds_toArray, List.set_cons_zero, List.set_cons_succ])
      refine wpAnyH_take (i := 15) (oi := { dst := some 24, op := Go.Op.load 2 (Go.Operand.tmp 23), type := 2, pos := "l09_fleet.go:75", after := #[{ on := 14, ground := Go.Ground.data }, { on := 6, ground := Go.Ground.guard }], guard := some (6, true) }) (v := ?v15) rfl (by kernel_rfl) (by kernel_rfl) (by kernel_rfl) (fun _ _ _ h => h) (Or.inl ⟨by rfl, ?hy15⟩) (by assumption) ?rest15
      case hy15 => (intro w hSw; (try dsimp only at hSw); go_simp; (try with_reducible rfl))
      (try simp only [Act.put, List.setIfInBounds_toArray, List.set_cons_zero, List.set_cons_succ])
      refine wpAnyH_ready (rs := [12]) (by kernel_rfl) (by simp) ?_
      refine AllReadyH.cons (o := { dst := some 21, op := Go.Op.call { callee := Go.Callee.value (Go.Operand.func 178), args := #[Go.Operand.tmp 16, Go.Operand.tmp 20], argTypes := #[52, 2] }, type := 22, pos := "l09_fleet.go:76", after := #[{ on := 7, ground := Go.Ground.data }, { on := 11, ground := Go.Ground.data }, { on := 6, ground := Go.Ground.chain }, { on := 6, ground := Go.Ground.guard }], guard := some (6, true) }) rfl (fun K hK => ?_) AllReadyH.nil
      go_simp
      (go_at_call 178; (with_reducible refine (HCP.out _).mono ?_); rintro e2 v2 ⟨ap, cp, rfl, hop, hbx2⟩; (have hbel := Below.trans' hd hbx2); (have hip := intsAt_of_ownsRow hop))
      (try go_wp2_with fail)
      refine hK.out _ _ ?_ (fun hHeld => ?_)
      · (try dsimp only)
        exact HS1.out _ hbel
      clear hK K
      (try simp only [Act.put, List.setIfInBounds_toArray, List.set_cons_zero, List.set_cons_succ])
      refine wpAnyH_ready (rs := [16]) (by kernel_rfl) (by simp) ?_
      refine AllReadyH.cons (o := { dst := some 25, op := Go.Op.call { callee := Go.Callee.value (Go.Operand.func 149), args := #[Go.Operand.tmp 21, Go.Operand.tmp 24], argTypes := #[22, 2] }, type := 4, pos := "l09_fleet.go:76", after := #[{ on := 12, ground := Go.Ground.data }, { on := 15, ground := Go.Ground.data }, { on := 12, ground := Go.Ground.chain }, { on := 6, ground := Go.Ground.guard }], guard := some (6, true) }) rfl (fun K hK => ?_) AllReadyH.nil
      go_simp
      (go_at_call 149; (with_reducible refine (HCI.out _ _ _ hip).mono ?_); rintro e3 v3 ⟨rfl, rfl⟩)
      (try go_wp2_with fail)
      refine hK.out _ _ ?_ (fun hHeld => ?_)
      · (try dsimp only)
        exact HS1.out _ hbel
      clear hK K
      (try simp only [Act.put, List.setIfInBounds_toArray, List.set_cons_zero, List.set_cons_succ])
      refine wpAnyH_take (i := 17) (oi := { dst := some 26, op := Go.Op.pick (Go.Operand.tmp 15) (Go.Operand.tmp 25) (Go.Operand.const (Go.Value.bool false)), type := 4, pos := "l09_fleet.go:75", after := #[{ on := 6, ground := Go.Ground.data }, { on := 16, ground := Go.Ground.data }], guard := none }) (v := ?v17) rfl (by kernel_rfl) (by kernel_rfl) (by kernel_rfl) (fun _ _ _ h => h) (Or.inl ⟨by rfl, ?hy17⟩) (by assumption) ?rest17
      case hy17 => (intro w hSw; (try dsimp only at hSw); go_simp; (try with_reducible rfl))
      (try simp only [Act.put, List.setIfInBounds_toArray, List.set_cons_zero, List.set_cons_succ])
      refine wpAnyH_take (i := 18) (oi := { dst := some 27, op := Go.Op.move (Go.Operand.tmp 26), type := 4, pos := "l09_fleet.go:75", after := #[{ on := 17, ground := Go.Ground.data }, { on := 16, ground := Go.Ground.chain }], guard := none }) (v := ?v18) rfl (by kernel_rfl) (by kernel_rfl) (by kernel_rfl) (fun _ _ _ h => h) (Or.inl ⟨by rfl, ?hy18⟩) (by assumption) ?rest18
      case hy18 => (intro w hSw; (try dsimp only at hSw); go_simp; (try with_reducible rfl))
      (try simp only [Act.put, List.setIfInBounds_toArray, List.set_cons_zero, List.set_cons_succ])
      refine wpAnyH_take (i := 19) (oi := { dst := some 28, op := Go.Op.load 52 (Go.Operand.tmp 2), type := 52, pos := "l09_fleet.go:75", after := #[{ on := 18, ground := Go.Ground.guard }], guard := some (18, true) }) (v := undef) rfl (by kernel_rfl) (by kernel_rfl) (by kernel_rfl) (fun _ _ _ h => h) (Or.inr ⟨by rfl, rfl⟩) (by assumption) ?_
      (try simp only [Act.put, List.setIfInBounds_toArray, List.set_cons_zero, List.set_cons_succ])
      refine wpAnyH_take (i := 20) (oi := { dst := some 29, op := Go.Op.move (Go.Operand.tmp 1), type := 22, pos := "l09_fleet.go:75", after := #[{ on := 18, ground := Go.Ground.guard }], guard := some (18, true) }) (v := undef) rfl (by kernel_rfl) (by kernel_rfl) (by kernel_rfl) (fun _ _ _ h => h) (Or.inr ⟨by rfl, rfl⟩) (by assumption) ?_
      (try simp only [Act.put, List.setIfInBounds_toArray, List.set_cons_zero, List.set_cons_succ])
      refine wpAnyH_take (i := 21) (oi := { dst := some 30, op := Go.Op.indexAddr 22 (Go.Operand.tmp 29) (Go.Operand.const (Go.Value.int Go.IntKind.i64 0)), type := 0, pos := "l09_fleet.go:75", after := #[{ on := 20, ground := Go.Ground.data }, { on := 18, ground := Go.Ground.guard }], guard := some (18, true) }) (v := undef) rfl (by kernel_rfl) (by kernel_rfl) (by kernel_rfl) (fun _ _ _ h => h) (Or.inr ⟨by rfl, rfl⟩) (by assumption) ?_
      (try simp only [Act.put, List.setIfInBounds_toArray, List.set_cons_zero, List.set_cons_succ])
      refine wpAnyH_take (i := 22) (oi := { dst := some 31, op := Go.Op.load 2 (Go.Operand.tmp 30), type := 2, pos := "l09_fleet.go:75", after := #[{ on := 21, ground := Go.Ground.data }, { on := 18, ground := Go.Ground.guard }], guard := some (18, true) }) (v := undef) rfl (by kernel_rfl) (by kernel_rfl) (by kernel_rfl) (fun _ _ _ h => h) (Or.inr ⟨by rfl, rfl⟩) (by assumption) ?_
      (try simp only [Act.put, List.setIfInBounds_toArray, List.set_cons_zero, List.set_cons_succ])
      refine wpAnyH_take (i := 23) (oi := { dst := some 32, op := Go.Op.call { callee := Go.Callee.value (Go.Operand.func 180), args := #[Go.Operand.tmp 28, Go.Operand.tmp 31], argTypes := #[52, 2] }, type := 212, pos := "l09_fleet.go:77", after := #[{ on := 19, ground := Go.Ground.data }, { on := 22, ground := Go.Ground.data }, { on := 18, ground := Go.Ground.chain }, { on := 18, ground := Go.Ground.guard }], guard := some (18, true) }) (v := undef) rfl (by kernel_rfl) (by kernel_rfl) (by kernel_rfl) (fun _ _ _ h => h) (Or.inr ⟨by rfl, rfl⟩) (by assumption) ?_
      (try simp only [Act.put, List.setIfInBounds_toArray, List.set_cons_zero, List.set_cons_succ])
      refine wpAnyH_take (i := 24) (oi := { dst := some 33, op := Go.Op.move (Go.Operand.tmp 1), type := 22, pos := "l09_fleet.go:75", after := #[{ on := 18, ground := Go.Ground.guard }], guard := some (18, true) }) (v := undef) rfl (by kernel_rfl) (by kernel_rfl) (by kernel_rfl) (fun _ _ _ h => h) (Or.inr ⟨by rfl, rfl⟩) (by assumption) ?_
      (try simp only [Act.put, List.setIfInBounds_toArray, List.set_cons_zero, List.set_cons_succ])
      refine wpAnyH_take (i := 25) (oi := { dst := some 34, op := Go.Op.call { callee := Go.Callee.value (Go.Operand.func 85), args := #[Go.Operand.tmp 33], argTypes := #[22] }, type := 112, pos := "l09_fleet.go:77", after := #[{ on := 24, ground := Go.Ground.data }, { on := 23, ground := Go.Ground.chain }, { on := 18, ground := Go.Ground.guard }], guard := some (18, true) }) (v := undef) rfl (by kernel_rfl) (by kernel_rfl) (by kernel_rfl) (fun _ _ _ h => h) (Or.inr ⟨by rfl, rfl⟩) (by assumption) ?_
      (try simp only [Act.put, List.setIfInBounds_toArray, List.set_cons_zero, List.set_cons_succ])
      refine wpAnyH_take (i := 26) (oi := { dst := some 35, op := Go.Op.call { callee := Go.Callee.value (Go.Operand.func 179), args := #[Go.Operand.tmp 32, Go.Operand.tmp 34], argTypes := #[212, 112] }, type := 4, pos := "l09_fleet.go:77", after := #[{ on := 23, ground := Go.Ground.data }, { on := 25, ground := Go.Ground.data }, { on := 25, ground := Go.Ground.chain }, { on := 18, ground := Go.Ground.guard }], guard := some (18, true) }) (v := undef) rfl (by kernel_rfl) (by kernel_rfl) (by kernel_rfl) (fun _ _ _ h => h) (Or.inr ⟨by rfl, rfl⟩) (by assumption) ?_
      (try simp only [Act.put, List.setIfInBounds_toArray, List.set_cons_zero, List.set_cons_succ])
      refine wpAnyH_take (i := 27) (oi := { dst := some 36, op := Go.Op.pick (Go.Operand.tmp 27) (Go.Operand.tmp 35) (Go.Operand.const (Go.Value.bool false)), type := 4, pos := "l09_fleet.go:75", after := #[{ on := 18, ground := Go.Ground.data }, { on := 26, ground := Go.Ground.data }], guard := none }) (v := ?v27) rfl (by kernel_rfl) (by kernel_rfl) (by kernel_rfl) (fun _ _ _ h => h) (Or.inl ⟨by rfl, ?hy27⟩) (by assumption) ?rest27
      case hy27 => (intro w hSw; (try dsimp only at hSw); go_simp; (try with_reducible rfl))
      (try simp only [Act.put, List.setIfInBounds_toArray, List.set_cons_zero, List.set_cons_succ])
      refine wpAnyH_take (i := 28) (oi := { dst := some 4, op := Go.Op.assign (Go.Operand.tmp 36), type := 4, pos := "l09_fleet.go:75", after := #[{ on := 27, ground := Go.Ground.data }, { on := 26, ground := Go.Ground.chain }, { on := 0, ground := Go.Ground.phase }, { on := 1, ground := Go.Ground.phase }, { on := 2, ground := Go.Ground.phase }, { on := 3, ground := Go.Ground.phase }, { on := 4, ground := Go.Ground.phase }, { on := 5, ground := Go.Ground.phase }, { on := 6, ground := Go.Ground.phase }, { on := 7, ground := Go.Ground.phase }, { on := 8, ground := Go.Ground.phase }, { on := 9, ground := Go.Ground.phase }, { on := 10, ground := Go.Ground.phase }, { on := 11, ground := Go.Ground.phase }, { on := 12, ground := Go.Ground.phase }, { on := 13, ground := Go.Ground.phase }, { on := 14, ground := Go.Ground.phase }, { on := 15, ground := Go.Ground.phase }, { on := 16, ground := Go.Ground.phase }, { on := 17, ground := Go.Ground.phase }, { on := 18, ground := Go.Ground.phase }, { on := 19, ground := Go.Ground.phase }, { on := 20, ground := Go.Ground.phase }, { on := 21, ground := Go.Ground.phase }, { on := 22, ground := Go.Ground.phase }, { on := 23, ground := Go.Ground.phase }, { on := 24, ground := Go.Ground.phase }, { on := 25, ground := Go.Ground.phase }, { on := 26, ground := Go.Ground.phase }, { on := 27, ground := Go.Ground.phase }], guard := none }) (v := ?v28) rfl (by kernel_rfl) (by kernel_rfl) (by kernel_rfl) (fun _ _ _ h => h) (Or.inl ⟨by rfl, ?hy28⟩) (by assumption) ?rest28
      case hy28 => (intro w hSw; (try dsimp only at hSw); go_simp; (try with_reducible rfl))
      (try simp only [Act.put, List.setIfInBounds_toArray, List.set_cons_zero, List.set_cons_succ])
      refine wpAnyH_take (i := 29) (oi := { dst := some 5, op := Go.Op.assign (Go.Operand.const (Go.Value.int Go.IntKind.i64 0)), type := 2, pos := "l09_fleet.go:75", after := #[{ on := 28, ground := Go.Ground.chain }, { on := 0, ground := Go.Ground.phase }, { on := 1, ground := Go.Ground.phase }, { on := 2, ground := Go.Ground.phase }, { on := 3, ground := Go.Ground.phase }, { on := 4, ground := Go.Ground.phase }, { on := 5, ground := Go.Ground.phase }, { on := 6, ground := Go.Ground.phase }, { on := 7, ground := Go.Ground.phase }, { on := 8, ground := Go.Ground.phase }, { on := 9, ground := Go.Ground.phase }, { on := 10, ground := Go.Ground.phase }, { on := 11, ground := Go.Ground.phase }, { on := 12, ground := Go.Ground.phase }, { on := 13, ground := Go.Ground.phase }, { on := 14, ground := Go.Ground.phase }, { on := 15, ground := Go.Ground.phase }, { on := 16, ground := Go.Ground.phase }, { on := 17, ground := Go.Ground.phase }, { on := 18, ground := Go.Ground.phase }, { on := 19, ground := Go.Ground.phase }, { on := 20, ground := Go.Ground.phase }, { on := 21, ground := Go.Ground.phase }, { on := 22, ground := Go.Ground.phase }, { on := 23, ground := Go.Ground.phase }, { on := 24, ground := Go.Ground.phase }, { on := 25, ground := Go.Ground.phase }, { on := 26, ground := Go.Ground.phase }, { on := 27, ground := Go.Ground.phase }, { on := 28, ground := Go.Ground.phase }], guard := none }) (v := ?v29) rfl (by kernel_rfl) (by kernel_rfl) (by kernel_rfl) (fun _ _ _ h => h) (Or.inl ⟨by rfl, ?hy29⟩) (by assumption) ?rest29
      case hy29 => (intro w hSw; (try dsimp only at hSw); go_simp; (try with_reducible rfl))
      (try simp only [Act.put, List.setIfInBounds_toArray, List.set_cons_zero, List.set_cons_succ])
      refine wpAnyH_done (by kernel_rfl) ?_ _
      have hB2 := hide (Below.trans' hB1.out hbel)
      clear hd hop hbx2 hip
      go_wp2_with fail
      go_ret2
      exact ⟨by rw [hrf.out]; rfl, hB2.out⟩
    · have HCI := hide (fun (V : World) (ap : Option Addr) (cp : Nat) (h : IntsAt V ap P) => containsI_any ap cp P z V h (by have := HPF.out.2; omega))
      rw [hcon] at HCI
      have hzr := HPF.out.1 z (List.contains_iff_mem.1 hcon)
      obtain ⟨LV, hLV⟩ : ∃ LV, LV = levF wd hi cs (cs.length - 1) [[z]] := ⟨_, rfl⟩
      have hll : (LV.map padF).length ≤ 200000 := by rw [List.length_map, hLV]; have := levF_len HS.out z hzr; omega
      have hpc : Hid ((LV.map padF).contains (padF f) = r) := hide (by
        rw [padContains hf3 (fun g hg => by rw [hLV] at hg; rw [mem_levF_length wd hi cs hg]; omega), hprog.out, hcon, hLV]
        rfl)
      have HFF := hide (fun (V : World) (h : IntsAt V (some ⟨b1, o1, none⟩) cs) => fleetsFrom_any wd hi z (some ⟨b1, o1, none⟩) c cs V HS.out h hzr.1 hzr.2)
      rw [← hLV] at HFF
      have HPF2 := hide (fun (V : World) (h : IntsAt V (some ⟨b2, o2, none⟩) f) => placedFrom_any b2 o2 cf f V h hf1 hf3)
      rw [hlen] at HPF2
      obtain ⟨M, hM⟩ : ∃ M, M = LV.map padF := ⟨_, rfl⟩
      obtain ⟨x, y, u, hx⟩ : ∃ x y u : Int, padF f = (x, y, u) := ⟨_, _, _, rfl⟩
      have hv3 : valT (padF f) = .agg #[.int .i64 x, .int .i64 y, .int .i64 u] := by rw [hx]; rfl
      have HCT := hide (fun (V : World) (v : Value) (h : TrisAt V v M) => containsT_any v M (padF f) V h (by rw [hM]; exact hll))
      rw [← hM] at HFF hpc
      rw [hpc.out, hv3] at HCT
      rw [hv3] at HPF2
      have HA1X := hide (fun (V : World) (h : Below u1.heap.size u1 V) => hA1.out.keep h)
      have HF1X := hide (fun (V : World) (h : Below u1.heap.size u1 V) => hF1.out.keep h)
      clear hcon c0 c1 c2 hcn hcz hLV hll hzr hM hx hv3
      go_wp2_with fail
      have hd : Below u1.heap.size u1 u1.drew := Below.drew (Below.refl _ _)
      go_region_held3 (fun V => V.cell? ⟨W.heap.size, 0, none⟩ = some (.int .i64 wd) ∧ V.cell? ⟨W.heap.size, 1, none⟩ = some (.int .i64 hi) ∧ V.cell? ⟨W.heap.size, 2, none⟩ = some (.slice (some ⟨b1, o1, none⟩) cs.length c) ∧ V.cell? ⟨b1, o1, none⟩ = some (.int .i64 n) ∧ V.cell? ⟨b2, o2, none⟩ = some (.int .i64 z)) (first | (refine HS1.out _ ?_; (with_reducible (repeat (first | exact hbel | exact hd | refine Below.drew ?_ | refine Below.alloc' ?_ _))))) (first | (go_at_call 178; (with_reducible refine (HCP.out _).mono ?_); rintro e2 v2 ⟨ap, cp, rfl, hop, hbx2⟩; (have hbn2 : Below u1.heap.size u1 v2 := by (refine Below.trans' ?_ hbx2; (with_reducible (repeat (first | exact hbel | exact hd | refine Below.drew ?_ | refine Below.alloc' ?_ _)))));  (have hip := intsAt_of_ownsRow hop); have hbel := hbn2; clear hbn2) | (go_at_call 149; (with_reducible refine (HCI.out _ _ _ (by first | exact hip | exact IntsAt.keep hip (Below.drew (Below.refl _ _)))).mono ?_); rintro e3 v3 ⟨rfl, rfl⟩) | (go_at_call 180; (with_reducible refine (HFF.out _ (HA1X.out _ (by (with_reducible (repeat (first | exact hbel | exact hd | refine Below.drew ?_ | refine Below.alloc' ?_ _)))))).mono ?_); rintro e4 v4 ⟨vt, rfl, hot⟩; (have hbn4 : Below u1.heap.size u1 v4 := by (refine Below.trans' ?_ hot.old; (with_reducible (repeat (first | exact hbel | exact hd | refine Below.drew ?_ | refine Below.alloc' ?_ _)))));  (have hti := OwnsT.at hot); have hbel := hbn4; clear hbn4) | (go_at_call 85; (with_reducible refine (HPF2.out _ (HF1X.out _ (by (with_reducible (repeat (first | exact hbel | exact hd | refine Below.drew ?_ | refine Below.alloc' ?_ _)))))).mono ?_); rintro e5 v5 ⟨rfl, hbx5⟩; (have hbn5 : Below u1.heap.size u1 v5 := by (refine Below.trans' ?_ hbx5; (with_reducible (repeat (first | exact hbel | exact hd | refine Below.drew ?_ | refine Below.alloc' ?_ _))))); (try (first | (with_reducible have hip := IntsAt.keep hip hbx5) | (with_reducible have hip := IntsAt.keep (IntsAt.keep hip (Below.drew (Below.refl _ _))) hbx5))); (try (first | (with_reducible have hti := TrisAt.keep hti hbx5) | (with_reducible have hti := TrisAt.keep (TrisAt.keep hti (Below.drew (Below.refl _ _))) hbx5)));  have hbel := hbn5; clear hbn5) | (go_at_call 179; (with_reducible refine (HCT.out _ _ (by first | exact hti | exact TrisAt.keep hti (Below.drew (Below.refl _ _)))).mono ?_); rintro e6 v6 ⟨rfl, hbx6⟩; (have hbn6 : Below u1.heap.size u1 v6 := by (refine Below.trans' ?_ hbx6; (with_reducible (repeat (first | exact hbel | exact hd | refine Below.drew ?_ | refine Below.alloc' ?_ _))))); have hbel := hbn6; clear hbn6))
      all_goals
        have hB2 := hide (Below.trans' hB1.out (by (with_reducible (repeat (first | exact hbel | exact hd | refine Below.drew ?_ | refine Below.alloc' ?_ _)))))
        go_wp2_with fail
        go_ret2
        exact ⟨rfl, hB2.out⟩
  · have hrf : Hid (r = false) := hide (by rw [HR.out]; simp [fleetB, hlen])
    have hee : ((f.length : Int) == (cs.length : Int)) = false := by simp; omega
    go_enter Tryd.func133, Tryd.ntmps133
    go_wp2_with fail
    rw [← hW0]
    clear hW0
    (try go_wp2_with fail)
    refine (implIsSea_is HS.out hA0.out hl).mono ?_
    rintro e u1 ⟨rfl, hb1⟩
    have hB1 := hide (Below.trans' hB0.out hb1)
    have hX1 := hide (hX0.out.keep hb1)
    clear hb1 c0 c1 c2
    obtain ⟨c0, c1, c2⟩ := hX1.out
    go_wp2_with fail
    go_quiet (fail)
    have hB2 := hide (Below.trans' hB1.out (quiet_below (B := u1.heap.size) ⟨nq, rfl⟩ : Below u1.heap.size u1 (u1.drewN nq)))
    clear hee c0 c1 c2
    go_wp2_with fail
    go_ret2
    exact ⟨by rw [hrf.out]; rfl, hB2.out⟩
end Go.Proofs.YtkekanllfpdeaaaDoor
