/-
  Layer 7 (mix): the program's Same; the program's mix is an MImpl.
-/
import Derived.Test.YtmnibmgbicnamaaGreatDoorMxe
import Derived.Test.YtmnibmgbicnamaaGreatDoorIs
namespace Go.Proofs.YtmnibmgbicnamaaGreatDoor
open Go.RowKit

theorem Tryz.eqlNilE (v : Value) (w : World) : (binOp .eql 29 .nilIface (.iface 89 v)).run Tryz.prog w = .ok (.bool false) w := by
  have h : ∀ d : Nat, (Op.equalIn (d + 1) 29 .nilIface (.iface 89 v)).run Tryz.prog w = .ok false w := fun d => by simp [Op.equalIn, run_underlying Tryz.underlying29]
  simp only [binOp]
  simp [Op.equal, Op.maxDepth, h 9999]
set_option maxRecDepth 100000 in
theorem is_nil (d : Int) (w : World) : Calls Tryz.prog 39 #[.nilIface, .iface 89 (.int .i64 d)] w fun e w' => e = .returned (.bool false) ∧ w = w' := by
  have he := Tryz.eqlNilE
  go_enter Tryz.func39, Tryz.ntmps39
  go_wp2
  go_ret
  exact ⟨rfl, rfl⟩

set_option maxRecDepth 100000 in
theorem bytes_equal {w : World} {v x : Value} {zs ys : List Int} (hv : Sl w v zs) (hx : Sl w x ys) : Calls Tryz.prog 122 #[v, x] w fun e w' => e = .returned (.bool ((strOfNums zs).toList == (strOfNums ys).toList)) ∧ w = w' := by
  have hcx := hv.str
  have hcy := hx.str
  obtain ⟨a, c, L, rfl⟩ : ∃ a c L, v = .slice a L c := ⟨_, _, _, hv.form.choose_spec.choose_spec.1⟩
  obtain ⟨a', c', L', rfl⟩ : ∃ a c L, x = .slice a L c := ⟨_, _, _, hx.form.choose_spec.choose_spec.1⟩
  generalize strOfNums zs = s at hcx ⊢
  generalize strOfNums ys = t at hcy ⊢
  clear hv hx
  go_enter Tryz.func122, Tryz.ntmps122
  go_wp2
  go_ret
  exact ⟨rfl, rfl⟩

set_option maxRecDepth 100000 in
set_option maxHeartbeats 1600000 in
theorem mix_same (s : ByteArray) (hs : s.size ≤ 4611686018427387904) (n : Nat) (hn : n < 4294967296) {w : World} {D : Value} {ds : List Int} (htb : Tb w) (hD : Sl w D ds) : Calls Tryz.prog 115 #[.string s, .int .u32 n, D] w fun e w' => e = .returned (.bool (sameTold s n ds)) ∧ Below w.heap.size w w' := by
  unfold sameTold
  obtain ⟨aD, cD, LD, rfl⟩ : ∃ a c L, D = .slice a L c := ⟨_, _, _, hD.form.choose_spec.choose_spec.1⟩
  cases hc : cookieErr s with
  | some x =>
    have hdg := mix_digest_no s hs n w hc
    have hx2 := cookie_code hc
    clear hD
    go_enter Tryz.func115, Tryz.ntmps115
    go_wp2_with fail
    refine hdg.mono ?_
    rintro e w1 ⟨v, rfl, hf, hb⟩
    obtain ⟨pb, _, rfl, _, _, h2, h3⟩ := hf
    rw [hx2] at h2
    have his := is_fault pb 0 140 w1 (by simpa using h2) (by simpa using h3)
    clear h2 h3
    go_wp2_with fail
    refine his.mono ?_
    rintro e w2 ⟨rfl, rfl⟩
    go_wp2
    go_ret
    exact ⟨by simp, hb⟩
  | none =>
    have hdg := mix_digest_ok s (cookie_size hc) n hn w htb hc
    have HD : Hid (Sl w (.slice aD LD cD) ds) := hD
    clear hD
    go_enter Tryz.func115, Tryz.ntmps115
    go_wp2_with fail
    refine hdg.mono ?_
    rintro e w1 ⟨V, rfl, ho, hb, _⟩
    have heq := bytes_equal ho.sl (HD.out.turned (Turned.ofBelow (S := fun _ => False) hb) (fun _ _ h => h))
    obtain ⟨aV, cV, LV, rfl⟩ : ∃ a c L, V = .slice a L c := ⟨_, _, _, ho.sl.form.choose_spec.choose_spec.1⟩
    have HB : Hid (Below w.heap.size w w1) := hb
    clear hb ho
    have his := is_nil 140 w1
    go_wp2_with fail
    refine his.mono ?_
    rintro e w2 ⟨rfl, rfl⟩
    go_wp2_with fail
    refine heq.mono ?_
    rintro e w3 ⟨rfl, rfl⟩
    go_wp2
    go_ret
    exact ⟨by simp, HB.out⟩

/-- The program's mix is what is asked of it. -/
theorem mix_impl : MImpl where
  cookie := mix_cookie
  digest := mix_digest
  same := fun s hs n hn _ _ _ htb hD _ _ => mix_same s hs n hn htb hD
end Go.Proofs.YtmnibmgbicnamaaGreatDoor
