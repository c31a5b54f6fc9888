/-
  mex: the program's text (a map) and the model's (a row of bools), against one plain function.
-/
import Derived.Test.YtlgogpphlnogoaaNums
import Derived.Maps.OwnOps
import Derived.Maps.Views
namespace Go.Proofs.Ytlgogpphlnogoaa
open Go.RowKit Go.Maps

/-- 'm[k]' (without 'ok') at elements of type bool, in a map that the call has made. -/
theorem wpList_lookup_own_bool {H : Type} {P : Program} (w : World) {ops : Array Oper} {rest : List Oper} {o : Oper} {a : Act} {Q : Exit → Act → World → Prop}
    (hg : o.guard = none) (m x : Operand) (t : TypeId) (hop : o.op = Op.lookup t m x false)
    (k e : TypeId) (K : Keyed P k) (ht : P.underlying t = some (.map k e)) (he : P.underlying e = some .bool) (hz : (zeroValue e).run P w = .ok (.bool false) w) (b n : Nat) (D : DataW H)
    (hm : a.eval m = .map (some b)) (hown : w.ownsMap P k (plainElem P e) b n D) (key : Value) (kl : Lit) (hx : a.eval x = key) (hkey : keyOf P k key = some kl)
    (hK : ∀ c : Bool, D.atKey kl (.lit (.bool false)) = .lit (.bool c) → wpList P ops Q rest (a.put o.dst (.bool c)) w) :
    wpList P ops Q (o :: rest) a w := by
  refine wpList_plain hg fun K' hK' => ?_
  obtain ⟨v, ps, hrun, hv⟩ := hown.lookup K ht hz (plainElem_bool he false) hkey
  obtain ⟨c, rfl, hc⟩ : ∃ c : Bool, v = .bool c ∧ D.atKey kl (.lit (.bool false)) = .lit (.bool c) := by
    unfold plainElem at hv
    simp only [he] at hv
    cases v <;> simp at hv
    exact ⟨_, rfl, hv.1.symm⟩
  unfold Oper.wp
  simp [execOp, hop, hm, hx, hrun, Result.andThen]
  exact hK' _ _ (hK c hc)

/-! ### the plain function -/
def mexGo (zs : List Int) : Nat → Nat → Nat
  | 0, k => k
  | f + 1, k => if (k : Int) ∈ zs then mexGo zs f (k + 1) else k
def mexN (zs : List Int) : Nat := mexGo zs zs.length 0
theorem mexGo_eq {zs : List Int} {m : Nat} (hm : (m : Int) ∉ zs) : ∀ (f k : Nat), k ≤ m → m - k ≤ f → (∀ i : Nat, k ≤ i → i < m → (i : Int) ∈ zs) → mexGo zs f k = m
  | 0, k, h1, h2, _ => by unfold mexGo; omega
  | f + 1, k, h1, h2, h3 => by
    unfold mexGo
    by_cases e : k = m
    · subst e; rw [if_neg hm]
    · rw [if_pos (h3 k (Nat.le_refl _) (by omega))]
      exact mexGo_eq hm f (k + 1) (by omega) (by omega) (fun i hi => h3 i (by omega))
theorem firsts_le : ∀ (k : Nat) (zs : List Int), (∀ i : Nat, i < k → (i : Int) ∈ zs) → k ≤ zs.length
  | 0, _, _ => Nat.zero_le _
  | k + 1, zs, h => by
    have hk := h k (by omega)
    have := firsts_le k (zs.erase (k : Int)) (fun i hi => (List.mem_erase_of_ne (by omega)).2 (h i (by omega)))
    rw [List.length_erase_of_mem hk] at this
    have hp := List.length_pos_of_mem hk
    omega
def AllIn (zs : List Int) (k : Nat) : Prop := ∀ i : Nat, i < k → (i : Int) ∈ zs
theorem AllIn.succ {zs : List Int} {k : Nat} (h : AllIn zs k) (hk : (k : Int) ∈ zs) : AllIn zs (k + 1) := by
  intro i hi
  by_cases e : i = k
  · subst e; exact hk
  · exact h i (by omega)
theorem mexN_eq {zs : List Int} {k : Nat} (h : AllIn zs k) (hk : (k : Int) ∉ zs) : mexN zs = k :=
  mexGo_eq hk _ _ (Nat.zero_le _) (by have := firsts_le k zs h; omega) (fun i _ hi => h i hi)
theorem mexGo_le (zs : List Int) : ∀ f k, mexGo zs f k ≤ k + f
  | 0, k => by unfold mexGo; omega
  | f + 1, k => by
    unfold mexGo
    split
    · have := mexGo_le zs f (k + 1); omega
    · omega
theorem mexN_le (zs : List Int) : mexN zs ≤ zs.length := by have := mexGo_le zs zs.length 0; unfold mexN; omega

def I64s (zs : List Int) : Prop := ∀ z ∈ zs, (Lit.int .i64 z).wf = true

/-! ### the map -/
/-- The map holds true at the first k numbers, and nowhere else. -/
def Marks (D : DataW Unit) (zs : List Int) (k : Nat) : Prop := IsMap D ∧ ∀ n : Int, D.atKey (.int .i64 n) (.lit (.bool false)) = .lit (.bool (decide (n ∈ zs.take k)))
theorem Marks.zero (zs : List Int) : Marks (.map []) zs 0 := ⟨isMap_empty, fun n => by simp [DataW.atKey]⟩
theorem Marks.succ {D : DataW Unit} {zs : List Int} {k : Nat} {z : Int} (h : Marks D zs k) (hz : zs[k]? = some z) : Marks (D.put (.int .i64 z) (.lit (.bool true))) zs (k + 1) := by
  refine ⟨h.1.put _ _, fun n => ?_⟩
  rw [List.take_add_one, hz]
  by_cases e : n = z
  · subst e
    rw [atKey_put_same h.1 (by simp [WideAt.IsKeyLit])]
    simp
  · rw [atKey_put_other (by simpa using e), h.2 n]
    simp [e]

theorem Try.key2 : Keyed Try.prog 2 := int_keyed Try.underlying2
theorem zeroBool (w : World) : (zeroValue 4).run Try.prog w = .ok (.bool false) w := by kernel_rfl

set_option maxRecDepth 100000 in
set_option maxHeartbeats 1000000 in
theorem implMex_any (a : Option Addr) (c : Nat) (zs : List Int) (w : World) (ha : IntsAt w a zs) (hl : zs.length ≤ 1048576) (hw : I64s zs) :
    Calls Try.prog 73 #[.slice a zs.length c] w fun e w' => e = .returned (.int .i64 (mexN zs)) ∧ Below w.heap.size w w' := by
  have hmm := @run_makeMap Try.prog
  go_enter Try.func73, Try.ntmps73
  go_wp2
  go_loopw [10] (fun i wr => ∃ (k : Nat) (D : DataW Unit), k ≤ zs.length ∧ i = .int .i64 k ∧ wr.ownsMap Try.prog 2 (plainElem Try.prog 4) w.heap.size k D ∧ Marks D zs k ∧ Below w.heap.size w wr) (fun i _ => zs.length - (intOf i).toNat)
  case atStart => exact ⟨0, .map [], Nat.zero_le _, rfl, World.ownsMap_made _ _ _ _, Marks.zero zs, (Below.refl _ _).alloc (Nat.le_refl _) _⟩
  case round =>
    obtain ⟨k, D, hk, rfl, hown, hM, hB⟩ := hrel
    by_cases hlt : k < zs.length
    · obtain ⟨b1, o1, z, rfl, h1, hz⟩ := (ha.keep hB).one hlt
      have hkey := keyOf_int_mk Try.underlying2 (hw z (List.mem_of_getElem? hz.out))
      have hM2 := hM.succ hz.out
      clear ha hmm hM hw
      go_wp2_with (at_mapUpdate; refine wpList_mapUpdate_own _ rfl _ _ _ 97 rfl 2 4 Try.key2 Try.underlying97 (plainElem (H := Unit) Try.prog 4) w.heap.size k _ rfl hown (by unfold maxLen; omega) _ _ _ rfl rfl hkey _ [] (plainElem_bool Try.underlying4 true) ?_; intro w1 hown1 hgrow1)
      go_roundw
      case rel => exact ⟨k + 1, _, by omega, by go_num, hown1, hM2, hB.grown hgrow1 hB.size (fun j hj => by cases hj; exact Nat.le_refl _)⟩
      case measure => simp [intOf]; omega
    · obtain rfl : k = zs.length := by omega
      have hin : ∀ n : Int, D.atKey (.int .i64 n) (.lit (.bool false)) = .lit (.bool (decide (n ∈ zs))) := fun n => by have := hM.2 n; rwa [List.take_length] at this
      have HI := hide hin
      clear hin hM hmm ha
      go_wp2
      go_loop [6] (fun i => ∃ m : Nat, i = .int .i64 m ∧ AllIn zs m) (fun i => zs.length + 1 - (intOf i).toNat)
      case atStart => exact ⟨0, rfl, fun _ h => by omega⟩
      case round =>
        obtain ⟨m, rfl, hA⟩ := hrel
        have hml := firsts_le m zs hA
        have hkey := keyOf_int_mk Try.underlying2 (show (Lit.int .i64 (m : Int)).wf = true from WalkArith.wf_i64 (by omega))
        by_cases hin : (m : Int) ∈ zs
        · have HA2 := hA.succ hin
          have hm2 := firsts_le (m + 1) zs HA2
          have hat0 : D.atKey (.int .i64 m) (.lit (.bool false)) = .lit (.bool true) := by rw [HI.out, decide_eq_true hin]
          have HT := hide hat0
          clear hat0 hA hin
          go_wp2_with (at_lookup; refine wpList_lookup_own_bool _ rfl _ _ 97 rfl 2 4 Try.key2 Try.underlying97 Try.underlying4 (zeroBool _) w.heap.size zs.length D rfl hown _ _ rfl hkey ?_; intro c hat; obtain rfl : c = true := by (rw [HT.out] at hat; simpa using hat.symm))
          go_round
          case rel => exact ⟨m + 1, by go_num, HA2⟩
          case measure => simp [intOf]; omega
        · have HX := hide (mexN_eq hA hin)
          have hat0 : D.atKey (.int .i64 m) (.lit (.bool false)) = .lit (.bool false) := by rw [HI.out, decide_eq_false hin]
          have HT := hide hat0
          clear hat0 hA hin
          go_wp2_with (at_lookup; refine wpList_lookup_own_bool _ rfl _ _ 97 rfl 2 4 Try.key2 Try.underlying97 Try.underlying4 (zeroBool _) w.heap.size zs.length D rfl hown _ _ rfl hkey ?_; intro c hat; obtain rfl : c = false := by (rw [HT.out] at hat; simpa using hat.symm))
          go_ret
          exact ⟨ret_int (by rw [HX.out]), hB⟩

/-! ### the row of bools -/
theorem Try.info4 : (Try.prog.info? 4).map (fun i => (i.zero, i.size, i.bytes)) = some (some (.bool false), 1, 1) := by kernel_rfl
def met (zs : List Int) (k : Nat) : Nat → Value := fun i => .bool (decide ((i : Int) ∈ zs.take k))
theorem met_set {w : World} {b n : Nat} {t : TypeId} {zs : List Int} {k : Nat} {z : Int} (h : w.rowIs b t n (met zs k)) (hz : zs[k]? = some z) (h0 : 0 ≤ z) :
    (w.setCell ⟨b, z.toNat, none⟩ (.bool true)).rowIs b t n (met zs (k + 1)) := by
  refine (h.set z.toNat (.bool true)).congr ?_
  intro i _
  unfold met
  rw [List.take_add_one, hz]
  by_cases e : i = z.toNat
  · subst e
    have : ((z.toNat : Nat) : Int) = z := by omega
    simp [this]
  · have : (i : Int) ≠ z := by omega
    simp [e, this]
theorem met_skip {w : World} {b n : Nat} {t : TypeId} {zs : List Int} {k : Nat} {z : Int} (h : w.rowIs b t n (met zs k)) (hz : zs[k]? = some z) (h0 : (n : Int) ≤ z) :
    w.rowIs b t n (met zs (k + 1)) := by
  refine h.congr ?_
  intro i hi
  unfold met
  rw [List.take_add_one, hz]
  have : (i : Int) ≠ z := by omega
  simp [this]

set_option maxRecDepth 100000 in
set_option maxHeartbeats 1000000 in
theorem l01Mex_any (a : Option Addr) (c : Nat) (zs : List Int) (w : World) (ha : IntsAt w a zs) (hl : zs.length ≤ 1048576) (hpos : ∀ z ∈ zs, 0 ≤ z) :
    Calls Try.prog 95 #[.slice a zs.length c] w fun e w' => e = .returned (.int .i64 (mexN zs)) ∧ Below w.heap.size w w' := by
  have hmk := run_make_row' (P := Try.prog) 49 4 (.bool false) 1 Try.underlying49 Try.info4 rfl .i64 .i64 (zs.length + 1) (by omega) (by omega)
  have ec : ((zs.length + 1 : Nat) : Int) = (zs.length : Int) + 1 := by omega
  rw [ec] at hmk
  clear ec
  have h0 := World.rowIs_made w (.bool false) (zs.length + 1) 4
  go_enter Try.func95, Try.ntmps95
  go_wp2
  go_loopw [4] (fun i wr => ∃ k : Nat, k ≤ zs.length ∧ i = .int .i64 k ∧ wr.rowIs w.heap.size 4 (zs.length + 1) (met zs k) ∧ Below w.heap.size w wr) (fun i _ => zs.length - (intOf i).toNat)
  case atStart => exact ⟨0, Nat.zero_le _, rfl, h0.congr (fun i _ => by simp [met]), (Below.refl _ _).alloc (Nat.le_refl _) _⟩
  case round =>
    clear h0 hmk
    obtain ⟨k, hk, rfl, hr, hB⟩ := hrel
    by_cases hlt : k < zs.length
    · obtain ⟨b1, o1, z, rfl, h1, hz⟩ := (ha.keep hB).one hlt
      have hz0 : 0 ≤ z := hpos z (List.mem_of_getElem? hz.out)
      clear ha hpos
      by_cases hbig : z < (zs.length : Int) + 1
      · obtain ⟨n, rfl⟩ := Int.eq_ofNat_of_zero_le hz0
        have hn : n < zs.length + 1 := by omega
        have hce := hr.cell hn
        have hfr := hr.frozen n
        have hn2 := met_set hr hz.out hz0
        rw [Int.toNat_natCast] at hn2
        have hB2 := hB.setCell (p := ⟨w.heap.size, n, none⟩) (Nat.le_refl _) (.bool true)
        have HN := hide hn2
        clear hr hB hn2
        go_wp2
        go_roundw
        case rel => exact ⟨k + 1, by omega, by go_num, HN.out, hB2⟩
        case measure => simp [intOf]; omega
      · have HN := hide (met_skip hr hz.out (by omega))
        clear hr
        go_wp2
        go_roundw
        case rel => exact ⟨k + 1, by omega, by go_num, HN.out, hB⟩
        case measure => simp [intOf]; omega
    · obtain rfl : k = zs.length := by omega
      have hr2 : Hid (wr.rowIs w.heap.size 4 (zs.length + 1) (fun i => .bool (decide ((i : Int) ∈ zs)))) := by
        refine hide (hr.congr ?_)
        intro i _
        simp [met]
      clear hr ha
      go_wp2
      go_loop [5] (fun i => ∃ m : Nat, i = .int .i64 m ∧ AllIn zs m) (fun i => zs.length + 1 - (intOf i).toNat)
      case atStart => exact ⟨0, rfl, fun _ h => by omega⟩
      case round =>
        obtain ⟨m, rfl, hA⟩ := hrel
        have hml := firsts_le m zs hA
        have hlt : m < zs.length + 1 := by omega
        have hce := hr2.out.cell hlt
        have hfr := hr2.out.frozen m
        by_cases hin : (m : Int) ∈ zs
        · have HA2 := hA.succ hin
          have hm2 := firsts_le (m + 1) zs HA2
          simp only [decide_eq_true hin] at hce
          clear hA hin
          go_wp2
          go_round
          case rel => exact ⟨m + 1, by go_num, HA2⟩
          case measure => simp [intOf]; omega
        · have HX := hide (mexN_eq hA hin)
          simp only [decide_eq_false hin] at hce
          clear hA hin
          go_wp2
          go_ret
          exact ⟨ret_int (by rw [HX.out]), hB⟩
end Go.Proofs.Ytlgogpphlnogoaa
