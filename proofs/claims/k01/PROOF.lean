import PyProof.Rows.All
import Wide.All
import OpenK.AllK
import Wide.FinOn
import HandS.ForMost
import HandS.Wide
import HandS.IsInst
import HandS.Codes
import HandS.AnyAll
import HandS.EndTab
import PyProof.GenCompD
import PySem.Challenge.RW_traymap_k01_what_is_a_crate
set_option Elab.async false
set_option linter.all false
set_option maxRecDepth 100000
namespace Tm
open PySem PySem.Spec PyProof.Rows L2
/-! ### what leaves all that stood -/
theorem kp_ext {s t : Shared} (k : Keeps s t) : ∀ b o, s.heap.get? b = some o → t.heap.get? b = some o := by
  obtain ⟨h, tk, rfl, e⟩ := k
  exact e
theorem kp_tr {s t u : Shared} (k : Keeps s t) (k' : Keeps t u) : Keeps s u := by
  obtain ⟨h, tk, rfl, e⟩ := k
  obtain ⟨h', tk', rfl, e'⟩ := k'
  exact ⟨h', tk', rfl, fun b o q => e' b o (e b o q)⟩
theorem kp_tk (s : Shared) (n : Nat) : Keeps s { s with toks := n } := ⟨s.heap, n, rfl, fun _ _ q => q⟩
theorem mod_ext {K : PySem.W.Frag} {mg : Str → Option Value} {h h' : Heap} (m : Mod K mg h) (k : ∀ b o, h.get? b = some o → h'.get? b = some o) : Mod K mg h' := by
  obtain ⟨mb, h1, h2⟩ := m.blt
  exact ⟨m.kin.keeps k, m.glob.keeps k, ⟨mb, h1.keeps k, h2⟩, m.nolimit.keeps k⟩
/-- a word about a heap that stays where it grows -/
def Stays (hm : Heap → Prop) : Prop := ∀ h h' : Heap, (∀ b o, h.get? b = some o → h'.get? b = some o) → hm h → hm h'
/-- e gives what R says, and all that stood is left as it was; whatever frames stand around -/
def Lo (prog : Program) (w : World) (K : PySem.W.Frag) (mg : Str → Option Value) (D : Nat) (env : Env) (hm : Heap → Prop) (e : Expr) (R : Value → Prop) : Prop :=
  ∀ (A : Around) (E : Value → Shared → Prop) (s : Shared), A.handled = none → A.depth ≤ D → Mod K mg s.heap → hm s.heap → wpAny (model prog w) A (eval e env) (fun r t => R r ∧ Keeps s t) E s
section
variable {prog : Program} {w : World} {K : PySem.W.Frag} {mg : Str → Option Value} {D : Nat} {env : Env} {hm : Heap → Prop}
theorem Lo.imp {e : Expr} {R R' : Value → Prop} (h : Lo prog w K mg D env hm e R) (i : ∀ r, R r → R' r) : Lo prog w K mg D env hm e R' := fun A E s h1 h2 h3 h4 =>
  wpAny_mono (h A E s h1 h2 h3 h4) (fun r t q => ⟨i r q.1, q.2⟩) fun _ _ x => x
/-- a name of the frame -/
theorem lo_name {x : Str} {pos : Pos} {v : Value} (hk : env.scope.kind = .function) (hl : env.kindOf x = some .local) (hv : ∀ h, hm h → ∃ m, h.Ns env.locals m ∧ m x = some v) (hd : (x == ("__debug__" : Str)) = false := by decide) :
    Lo prog w K mg D env hm (.Name x pos) (fun r => r = v) := fun A E s _ _ _ h4 => by
  obtain ⟨m, h5, h6⟩ := hv _ h4
  exact wpAny_Name (wpAny_loadName_local hk hl h5 h6 ⟨rfl, kp_tk s s.toks⟩) hd
/-- a name of the module -/
theorem lo_glob {x : Str} {pos : Pos} {v : Value} (hk : env.scope.kind = .function) (hl : env.kindOf x = some .globalImplicit) (hg : env.globals = mainGlobals) (hv : mg x = some v) (hd : (x == ("__debug__" : Str)) = false := by decide) :
    Lo prog w K mg D env hm (.Name x pos) (fun r => r = v) := fun A E s _ _ h3 _ =>
  Calls.Name_function_global hk hl (Calls.loadGlobal_global (by rw [hg]; exact h3.glob) hv ⟨rfl, kp_tk s s.toks⟩) hd
/-- a built-in's name -/
theorem lo_blt {x : Str} {pos : Pos} {v : Value} (hk : env.scope.kind = .function) (hl : env.kindOf x = some .globalImplicit) (hg : env.globals = mainGlobals) (hb : env.builtins = builtinsNs) (hv : mg x = none) (hu : bootBuiltins x = some v)
    (hn : x ≠ "__name__" := by decide) (hd : (x == ("__debug__" : Str)) = false := by decide) : Lo prog w K mg D env hm (.Name x pos) (fun r => r = v) := fun A E s _ _ h3 _ => by
  obtain ⟨mb, h5, h6⟩ := h3.blt
  exact Calls.Name_function_global hk hl (Calls.loadGlobal_builtin (by rw [hg]; exact h3.glob) hv (by rw [hb]; exact h5) ((h6 x hn).trans hu) ⟨rfl, kp_tk s s.toks⟩) hd
theorem lo_int {i : Int} {k : Nat} {pos : Pos} : Lo prog w K mg D env hm (.Constant (.int i) k pos) (fun r => ∃ t, r = .int i t) := fun A E s _ _ _ _ =>
  wpAny_Constant_int ⟨⟨_, rfl⟩, kp_tk s _⟩
theorem lo_one {op : BoolOp} {a : Expr} {pos : Pos} {R : Value → Prop} (h : Lo prog w K mg D env hm a R) : Lo prog w K mg D env hm (.BoolOp op [a] pos) R := fun A E s h1 h2 h3 h4 => BoolOp_one (h A E s h1 h2 h3 h4)
/-- a and b: what a is decides -/
theorem lo_and {a b : Expr} {rest : List Expr} {pos : Pos} {c : Bool} {R : Value → Prop} (st : Stays hm) (ha : Lo prog w K mg D env hm a (fun r => r = .bool c)) (hf : c = false → R (.bool false)) (ht : c = true → Lo prog w K mg D env hm (.BoolOp .And (b :: rest) pos) R) :
    Lo prog w K mg D env hm (.BoolOp .And (a :: b :: rest) pos) R := fun A E s h1 h2 h3 h4 => by
  refine BoolOp_and (wpAny_mono (ha A E s h1 h2 h3 h4) (fun r t q => ?_) fun _ _ x => x)
  obtain ⟨rfl, k⟩ := q
  refine wpAny_truthy_bool ?_
  cases c with
  | false => exact ⟨hf rfl, k⟩
  | true => exact wpAny_mono (ht rfl A E t h1 h2 (mod_ext h3 (kp_ext k)) (st _ _ (kp_ext k) h4)) (fun r u q => ⟨q.1, kp_tr k q.2⟩) fun _ _ x => x
theorem lo_not {a : Expr} {pos : Pos} {c : Bool} (ha : Lo prog w K mg D env hm a (fun r => r = .bool c)) : Lo prog w K mg D env hm (.UnaryOp .Not a pos) (fun r => r = .bool (!c)) := fun A E s h1 h2 h3 h4 => by
  refine UnaryOp_ (wpAny_mono (ha A E s h1 h2 h3 h4) (fun r t q => ?_) fun _ _ x => x)
  obtain ⟨rfl, k⟩ := q
  exact PyProof.Rows.not_of (wpAny_truthy_bool ⟨rfl, k⟩)
/-- isinstance(a, T), T a built-in type -/
theorem lo_isi {a : Expr} {T : Str} {Tn : String} {p0 p2 pos : Pos} {v t : Value} {Hk : Heap → Prop} {b : Bool} (st : Stays hm) (hk : env.scope.kind = .function) (hg : env.globals = mainGlobals) (hb : env.builtins = builtinsNs)
    (li : env.kindOf "isinstance" = some .globalImplicit) (mi : mg "isinstance" = none) (lT : env.kindOf T = some .globalImplicit) (mT : mg T = none) (bT : bootBuiltins T = some (.type Tn))
    (ha : Lo prog w K mg D env hm a (fun r => r = v)) (Z : PySem.W.KitX K v t Hk) (hK : ∀ h, hm h → Hk h) (e : PySem.W.kitOne K t (.type Tn) = some b) (hx : v ≠ .builtin "__main__.__loader__#opaque")
    (he : starEach [a, .Name T p2] env = (false, eval a env) :: starEach [.Name T p2] env := by rfl) (hn : T ≠ "__name__" := by decide) (hd : (T == ("__debug__" : Str)) = false := by decide) :
    Lo prog w K mg D env hm (.Call (.Name "isinstance" p0) [a, .Name T p2] [] pos) (fun r => r = .bool b) := fun A E s h1 h2 h3 h4 => by
  refine wpAny_Call_Name_kw (wpAny_mono (lo_blt (D := D) (hm := hm) (pos := p0) hk li hg hb mi (by decide +kernel : bootBuiltins "isinstance" = some (.builtin "isinstance")) (by decide) (by decide) A E s h1 h2 h3 h4) (fun r t1 q => ?_) fun _ _ x => x)
  obtain ⟨rfl, k1⟩ := q
  refine PyProof.Rows.callWith_builtin1 ?_ he (by rfl)
  rw [he]
  have m1 := mod_ext h3 (kp_ext k1)
  have s1 := st _ _ (kp_ext k1) h4
  refine Calls.spliced_cons (wpAny_mono (ha A E t1 h1 h2 m1 s1) (fun r t2 q => ?_) fun _ _ x => x)
  obtain ⟨rfl, k2⟩ := q
  have m2 := mod_ext m1 (kp_ext k2)
  have s2 := st _ _ (kp_ext k2) s1
  refine Calls.spliced_cons (wpAny_mono (lo_blt (D := D) (hm := hm) (pos := p2) hk lT hg hb mT bT hn hd A E t2 h1 h2 m2 s2) (fun r t3 q => ?_) fun _ _ x => x)
  obtain ⟨rfl, k3⟩ := q
  refine Calls.spliced_nil ?_
  exact PySem.W.kia_one Z (mod_ext m2 (kp_ext k3)).kin (hK _ (st _ _ (kp_ext k3) s2)) e hx fun tk => ⟨rfl, kp_tr (kp_tr (kp_tr k1 k2) k3) (kp_tk _ tk)⟩
/-- i <= a <= c of whole numbers -/
theorem lo_chain {a b c : Expr} {pos : Pos} {x y z : Int} (st : Stays hm) (ha : Lo prog w K mg D env hm a (fun r => ∃ t, r = .int x t)) (hb : Lo prog w K mg D env hm b (fun r => ∃ t, r = .int y t)) (hc : Lo prog w K mg D env hm c (fun r => ∃ t, r = .int z t))
    (hl : lastMarks [.LtE, .LtE] [b, c] = false := by with_unfolding_all rfl) : Lo prog w K mg D env hm (.Compare a [.LtE, .LtE] [b, c] pos) (fun r => r = .bool (decide (x ≤ y) && decide (y ≤ z))) := fun A E s h1 h2 h3 h4 => by
  refine Compare_chain (wpAny_mono (ha A E s h1 h2 h3 h4) (fun r t1 q => ?_) fun _ _ x => x) hl
  obtain ⟨⟨tx, rfl⟩, k1⟩ := q
  have m1 := mod_ext h3 (kp_ext k1)
  have s1 := st _ _ (kp_ext k1) h4
  refine chain_link (wpAny_mono (hb A E t1 h1 h2 m1 s1) (fun r t2 q => ?_) fun _ _ x => x)
  obtain ⟨⟨ty, rfl⟩, k2⟩ := q
  have m2 := mod_ext m1 (kp_ext k2)
  have s2 := st _ _ (kp_ext k2) s1
  refine le_int (wpAny_truthy_bool ?_)
  by_cases hxy : x ≤ y
  · rw [decide_eq_true hxy]
    show wpAny _ _ _ _ _ _
    refine chain_last (wpAny_mono (hc A E t2 h1 h2 m2 s2) (fun r t3 q => ?_) fun _ _ x => x)
    obtain ⟨⟨tz, rfl⟩, k3⟩ := q
    exact le_int ⟨by rw [Bool.true_and], kp_tr (kp_tr k1 k2) k3⟩
  · rw [decide_eq_false hxy]
    show _ ∧ _
    exact ⟨by rw [Bool.false_and], kp_tr k1 k2⟩
/-- f(a): f a def of the text of one parameter, its body one return -/
theorem lo_call {f : Addr} {x pn qual fn : Str} {a e : Expr} {params : Arguments} {scope : Scope} {oc kV doc pm cdv ct u : Value} {od an : Option Addr} {osl : Array (Option Value)} {p0 p1 pos : Pos} {R : Value → Prop} (st : Stays hm)
    (hk : env.scope.kind = .function) (hg : env.globals = mainGlobals) (lf : env.kindOf fn = some .globalImplicit) (mf : mg fn = some (.ref f)) (hD : D < recursionLimit)
    (lk : K.lookup f = some ⟨oc, od, .func (PySem.W.fnOf x qual params [.Return (some e) p1] scope .none kV doc pm an cdv ct), osl⟩) (hcd : PySem.W.codeIn K cdv qual = true) (kp : PySem.W.keepIn K (.ref f) = true)
    (S : FnScope [pn] [pn] scope) (hb : Binds K (PySem.W.fnOf x qual params [.Return (some e) p1] scope .none kV doc pm an cdv ct) [pn] [])
    (lp : scope.names.lookup pn = some .local) (ha : Lo prog w K mg D env hm a (fun r => r = u))
    (hbody : ∀ env' : Env, env'.scope = scope → env'.globals = mainGlobals → env'.builtins = builtinsNs → Lo prog w K mg (D + 1) env' (fun h => hm h ∧ ∃ m, h.Ns env'.locals m ∧ m pn = some u) e R)
    (he : starEach [a] env = (false, eval a env) :: starEach [] env := by rfl) (hd : (fn == ("__debug__" : Str)) = false := by decide) :
    Lo prog w K mg D env hm (.Call (.Name fn p0) [a] [] pos) R := fun A E s h1 h2 h3 h4 => by
  refine wpAny_Call_Name_kw (wpAny_mono (lo_glob (D := D) (hm := hm) (pos := p0) hk lf hg mf hd A E s h1 h2 h3 h4) (fun r t1 q => ?_) fun _ _ x => x)
  obtain ⟨rfl, k1⟩ := q
  have m1 := mod_ext h3 (kp_ext k1)
  have s1 := st _ _ (kp_ext k1) h4
  refine PySem.W.callWith_K (h₀ := t1.heap) m1.kin kp ?_ he (by rfl)
  rw [he]
  refine Calls.spliced_cons (wpAny_mono (ha A E t1 h1 h2 m1 s1) (fun r t2 q => ?_) fun _ _ x => x)
  obtain ⟨rfl, k2⟩ := q
  have m2 := mod_ext m1 (kp_ext k2)
  have s2 := st _ _ (kp_ext k2) s1
  refine Calls.spliced_nil ⟨m2.kin, ?_⟩
  have KX := m2.kin
  refine wpAny_call (codeAny_call_function (Nat.lt_of_le_of_lt h2 hD) (KX _ _ lk) rfl S.co S.gen rfl (PySem.W.codeRec_of KX hcd) (hb t2 [r] KX rfl _ _ _ _ ?_))
  refine wpAny_newFunctionEnv_cells S.kind (fun y hy => ?_) fun env' he' s3 x3 => ?_
  · obtain rfl : y = (pn, r) := List.mem_singleton.mp hy
    exact .inl lp
  · have k3 : Keeps t2 s3 := x3.done
    have m3 := mod_ext m2 (kp_ext k3)
    have s3' := st _ _ (kp_ext k3) s2
    refine ⟨m3.nolimit, codeAny_func ?_⟩
    have ns := x3.toInCall.ns
    have hv : bindL env'.kindOf ([pn].zip ([r] ++ [])) (fun _ => none) pn = some r := by
      subst he'
      show bindL _ [(pn, r)] _ pn = some r
      unfold bindL
      simp [bindL, newEnv, Env.kindOf, lp]
    have hb' := hbody env' (by subst he'; rfl) (by subst he'; rfl) (by subst he'; rfl) (A.deeper env')
    refine wpAny_execs_cons (wpAny_Return_some (wpAny_mono (hb' _ s3 h1 (Nat.succ_le_succ h2) m3 ⟨s3', _, ns, hv⟩) (fun r t q => ?_) fun _ _ x => x))
    exact ⟨q.1, kp_tr (kp_tr (kp_tr k1 k2) k3) q.2⟩
end
/-- all(elt for x in t), t a tuple; bs: what elt gives for each item; behind it the def's table may have grown -/
def tAllT (K : PySem.W.Frag) (P : Addr) (C : Hp → V → Bool → Prop) (te : TE) : TE := fun σ H Q => te σ H fun v H1 => ∃ (a : Addr) (xs : List V) (bs : List Bool), v = .ref a ∧ SqT K H1 a xs ∧ bs.length = xs.length ∧
  (∀ (i : Nat) (x : V) (b : Bool), xs[i]? = some x → bs[i]? = some b → C H1 x b) ∧ GxR.TabG H1 P ∧ ∀ H2, GxR.Tabbed P H1 H2 → Q (.bl (bs.all fun b => b)) H2
theorem all_get (bs : List Bool) : (List.range bs.length).all (fun j => (bs[j]?).getD false) = bs.all fun b => b := by
  rw [Bool.eq_iff_iff, List.all_eq_true, List.all_eq_true]
  constructor
  · intro h b hb
    obtain ⟨j, hj, e⟩ := List.getElem_of_mem hb
    have q := h j (List.mem_range.mpr hj)
    rw [List.getElem?_eq_getElem hj, e] at q
    exact q
  · intro h j hj
    rw [List.getElem?_eq_getElem (List.mem_range.mp hj)]
    exact h _ (List.getElem_mem _)
/-- what an element asks: at the item v it gives b, quietly -/
def EltOk (X : Cx) (P : Addr) (scope : Scope) (y : Str) (elt : Expr) (C : Hp → V → Bool → Prop) : Prop :=
  ∀ (pins : List (Addr × Obj)) (σ : L2.St) (H : Hp) (s : Shared) (v : V) (u : Value) (b : Bool), Inv X pins σ H s → RelV v u → C H v b → ∀ cenv : Env, cenv.scope = scope → cenv.globals = X.env.globals → cenv.builtins = builtinsNs →
    Lo X.prog X.w X.K X.mg (X.A.depth + 1) cenv (fun h => (∀ a o, a ≠ P → s.heap.get? a = some o → h.get? a = some o) ∧ ∃ m, h.Ns cenv.locals m ∧ m y = some u) elt (fun r => r = .bool b)
theorem pe_allT {X : Cx} {c P : Addr} {elt iter : Expr} {y : Str} {px p pos gpos : Pos} {scope : Scope} {C : Hp → V → Bool → Prop} {te : TE} {k : Nat}
    (hr : Room k X.A) (hg : Gl X "all") (hm : X.mg "all" = none) (TB : GxR.TabB X.base X.mg c P) (hcode : X.env.code = .ref c) (S : GxR.GenS X.env scope y) (hi : PE X iter te) (hel : EltOk X P scope y elt C)
    (hs : ∀ v, genFold iter X.env v = pure v)
    (he : starEach [.GeneratorExp elt [⟨.Name y px, iter, [], 0⟩] scope gpos] X.env = (false, eval (.GeneratorExp elt [⟨.Name y px, iter, [], 0⟩] scope gpos) X.env) :: starEach [] X.env := by rfl) :
    PE X (.Call (.Name "all" p) [.GeneratorExp elt [⟨.Name y px, iter, [], 0⟩] scope gpos] [] pos) (tAllT X.K P C te) := by
  refine ⟨fun pins s σ H Q I h => ?_⟩
  refine wpAny_Call_Name_kw (ld_blt I hg hm (by decide +kernel : bootBuiltins "all" = some (.builtin "all")) ?_)
  refine PyProof.Rows.callWith_builtin1 ?_ he (by rfl)
  rw [he]
  refine Calls.spliced_cons (wpAny_GeneratorExp_walksQD hr.hd S.co (closure_ok S.free) S.cell S.dot S.loc S.kind (by have z := hr.dp; omega) ?_ hs)
  refine thn (hi.run pins s σ H _ I h) fun xv s1 ⟨v, H1, I1, r1, a, xs, bs, ev, hT, hlen, hC, ⟨ps, hP, htr⟩, q1⟩ => ?_
  subst ev
  cases r1
  obtain ⟨its, rv, ht, hz⟩ := I1.tuple hT
  have lenI : its.length = xs.length := rv.length.symm
  have htl : a < s1.heap.objs.size := by
    obtain ⟨o, e, _⟩ := ht
    exact Heap.lt_size e
  have hPs : s1.heap.get? P = some { cls := .none, data := .fields ps } := I1.hok P _ hP
  have hPl : P < s1.heap.objs.size := Heap.lt_size hPs
  refine wpAny_pyIter_tuple (show s1.heap.IsTuple a its.toArray from ht) ?_
  generalize eo : ({ cls := .type "tuple_iterator", data := .fields #[.ref a, .int 0 0] } : Obj) = o
  have push1 : ∀ b u, s1.heap.get? b = some u → (s1.heap.push o).get? b = some u := fun b u e => Heap.get?_push_of_some _ e
  have szp : (s1.heap.push o).objs.size = s1.heap.objs.size + 1 := Heap.size_push ..
  have limp : (s1.heap.push o).NoLimit := I1.nolimit.push o
  have hcd : PySem.W.CodeHd (s1.heap.push o) c P := TB.code.keeps fun b u e => push1 b u (I1.bk b u e)
  refine ⟨limp, ?_⟩
  refine wpAny_mono (Q := fun _ s3 => ∃ (h3 : Heap) (tk : Nat) (more : Array Value), s3 = { s1 with heap := h3, toks := tk } ∧ Heap.ExtBut P (s1.heap.push o) h3 ∧ (s1.heap.push o).objs.size ≤ h3.objs.size ∧ h3.get? P = some { cls := .none, data := .fields (ps ++ more) } ∧ TriplesOk (ps ++ more).toList) (E := X.xe) ?_ (fun code s3 q3 => ?_) fun _ _ z => z
  · cases hf : codeAmong gpos ps.toList with
    | none =>
      refine wpAny_genexprCodeX hcode (hcd.code (push1 _ _ hPs) htr) (hcd.tab (push1 _ _ hPs)) hf fun c' h' tk hx hge hlt hco' _ htab' _ => ?_
      obtain ⟨o1, vs, f1, tf, fl, tg, inF, tx, tt, op, _, _, _, _, _, _, _, _, _, htr', _⟩ := hco'
      exact ⟨h', tk, _, rfl, hx, Nat.le_trans hge (Nat.le_of_lt hlt), htab'.2, htr'⟩
    | some cv =>
      refine wpAny_genexprCode_hit hcode (hcd.code (push1 _ _ hPs) htr) hf ?_
      exact ⟨s1.heap.push o, s1.toks, #[], rfl, Heap.ExtBut.refl _ _, Nat.le_refl _, by rw [Array.append_empty]; exact push1 _ _ hPs, by rw [Array.append_empty]; exact htr⟩
  · obtain ⟨h3, tk3, more, rfl, hx3, hsz3, hP3, htr3⟩ := q3
    obtain ⟨bm, ob, e1, e2, e3, e4, e5, e6, e7, e8⟩ := TB.bm
    have toH3 : ∀ b u, b ≠ P → s1.heap.get? b = some u → h3.get? b = some u := fun b u hb e => hx3 b u hb (push1 b u e)
    have nPc : cStatics ≠ P := fun e => by
      obtain ⟨_, hns, _⟩ := I1.nolimit
      obtain ⟨o', es, ep, ho, hd, _⟩ := hns
      rw [e, hPs] at ho
      cases ho
      cases hd
    have ltC : cStatics < s1.heap.objs.size := let ⟨_, hns, _⟩ := I1.nolimit; hns.lt
    have ltA : a ≠ P := fun e => by
      obtain ⟨o', e', c', _⟩ := ht
      rw [e, hPs] at e'
      cases e'
      cases c'
    refine wpAny_builtinsFor (m := X.mg) (by rw [I1.ok.glob]; exact ((I1.mod.glob.keeps I1.bk).push o).extBut hx3 TB.gP) e1 e2 (toH3 _ _ e4 (I1.bk _ _ e5)) e6 e7 e8 ?_
    have itl : s1.heap.objs.size < h3.objs.size := by omega
    refine ⟨s1.heap.objs.size, [s1.heap.objs.size, a], [s1.heap.objs.size], its.toArray.size, _, _, (fun _ => true), (fun i r => ∃ b, bs[i]? = some b ∧ r = .bool b), rfl, fun A' hA => Walks.tuple hA _ a (Nat.ne_of_lt htl) its.toArray, ⟨?_, ?_⟩, ?_, limp.extBut hx3 nPc, ?_, ?_, ?_⟩
    · have e9 : (s1.heap.push o).get? s1.heap.objs.size = some o := Heap.get?_push_size _ (by rw [← eo]; rfl)
      have e10 := hx3 _ _ (fun z => Nat.ne_of_lt hPl z.symm) e9
      subst eo
      exact ⟨_, e10, rfl, rfl⟩
    · obtain ⟨o', e', r'⟩ := ht
      exact ⟨o', toH3 _ _ ltA e', r'⟩
    · intro b hb
      rcases List.mem_cons.mp hb with z | z
      · rw [z]
        exact itl
      · rw [List.mem_singleton.mp z]
        exact Nat.lt_trans htl itl
    · intro z
      exact Nat.ne_of_lt ltC (List.mem_singleton.mp z)
    · intro href hhref
      refine ⟨fun A' E' i v s₂ m₂ hA _ _ _ hn hmv hk => ?_, fun A' E' i v s₂ m₂ hA hdp _ hv _ hn hmv hk => ?_⟩
      · simp only [List.forIn_nil]
        exact wpAny_pure ⟨rfl, kp_tk _ _⟩
      · have hv' : its[i]? = some v := by
          rw [← hv]
          simp
        obtain ⟨hi1, _⟩ := List.getElem?_eq_some_iff.mp hv'
        have hi2 : i < xs.length := by omega
        have hi3 : i < bs.length := by omega
        obtain ⟨u, hu, ru⟩ := rv.get (List.getElem?_eq_getElem hi2)
        rw [hv'] at hu
        cases hu
        have hold : ∀ b u, b ≠ P → s1.heap.get? b = some u → s₂.heap.get? b = some u := fun b u hb e => by
          have hl := Heap.lt_size e
          refine hk b (List.mem_range.mpr (Nat.lt_trans hl itl)) (fun z => ?_) u (hhref b u (toH3 b u hb e))
          exact Nat.ne_of_lt hl (List.mem_singleton.mp z)
        have hmod : Mod X.K X.mg s₂.heap := mod_ext I1.mod fun b u e => hold b u (fun z => by
          have n := (I1.bs b u e).2
          rw [z, hP] at n
          cases n) (I1.bk b u e)
        refine wpAny_mono (hel pins σ H1 s1 _ v bs[i] I1 ru (hC i _ _ (List.getElem?_eq_getElem hi2) (List.getElem?_eq_getElem hi3)) (genEnv scope (cloFrom X.env.cells scope.names []) h3.objs.size code builtinsNs X.env) rfl rfl rfl A' E' s₂ hA hdp hmod ⟨hold, m₂, hn, hmv⟩) (fun r t q => ?_) fun _ _ z => z
        exact ⟨⟨_, List.getElem?_eq_getElem hi3, q.1⟩, q.2⟩
    · intro g h5 tk5 gs hgb hag hsz5 hk5 W5 hat
      simp only [GxR.passing_true, List.length_range] at W5
      have W6 := W5.in4_1
      refine Calls.spliced_nil (call_all_walkS (W6.self 0 _ _ _ hat ⟨g, _, _, _, _, _, _, fun j => (bs[j]?).getD false, rfl, W6, hat, ?_, fun s' hmv => ?_⟩))
      · intro j r sj Qj Ej hr' hQj
        obtain ⟨i, hij, b, hb, rfl⟩ := hr'
        obtain ⟨hj, ej⟩ := List.getElem?_eq_some_iff.mp hij
        rw [List.getElem_range] at ej
        subst ej
        have hQ2 : Qj ((bs[j]?).getD false) sj := hQj
        rw [hb] at hQ2
        exact wpAny_truthy_bool hQ2
      · have nw : ∀ b u, s1.heap.get? b = some u → b ∉ h3.objs.size :: [s1.heap.objs.size] := fun b u e hb => by
          have hl := Heap.lt_size e
          rcases List.mem_cons.mp hb with z | z
          · rw [z] at hl
            exact absurd (Nat.lt_trans itl hl) (Nat.lt_irrefl _)
          · rw [List.mem_singleton.mp z] at hl
            exact Nat.lt_irrefl _ hl
        have J := GxR.inv_tab (more := more) (h' := s'.heap) (g' := s'.gens) (d' := s'.drawn) (t' := s'.toks) I1 hP (fun b u hb e => hmv.heap b u (nw b u e) (hk5 b u (toH3 b u hb e)))
          (hmv.heap P _ (nw P _ hPs) (hk5 P _ hP3)) (AllBare.movedS (I1.bare.push hgb) hmv)
        rw [GxR.sh_eta s1 s' hmv.os] at J
        refine ⟨.bl (bs.all fun b => b), upd H1 P (.tbl (ps ++ more)), J, ?_, q1 _ ⟨⟨ps ++ more, upd_same, htr3⟩, fun b hb => upd_ne hb⟩⟩
        have e11 : its.toArray.size = bs.length := by
          rw [List.size_toArray]
          omega
        rw [e11, all_get]
        rfl
/-! ### heaps -/
theorem same_upd {H : Hp} {p : Addr} {o : HO} (h : H p = none) : Same H (upd H p o) := fun b x e => by
  rw [upd_ne (ne_of_none e h)]
  exact e
theorem Same.tup {K : PySem.W.Frag} {H H' : Hp} {a : Addr} {xs : List V} (e : Same H H') (h : SqT K H a xs) : SqT K H' a xs := by
  rcases h with (h | ⟨o, h⟩) | h
  · exact .inl (.inl (e _ _ h))
  · exact .inl (.inr ⟨o, e _ _ h⟩)
  · exact .inr h
/-- the source of draws: at p the list of the cells' list at l, a number held and a seed -/
def Sc (p l : Addr) (H : Hp) : Prop := p ≠ l ∧ ∃ (ns : List Int) (a b : Int), H p = some (.lst [.ref l, .int a, .int b]) ∧ H l = some (.lst (ns.map V.int)) ∧ 0 ≤ a ∧ 0 ≤ b ∧ b < 998244353
/-- but for p and l all that was tracked is as it was -/
def Kp (p l : Addr) (H H' : Hp) : Prop := ∀ b o, b ≠ p → b ≠ l → H b = some o → H' b = some o
theorem Kp.refl {p l : Addr} (H : Hp) : Kp p l H H := fun _ _ _ _ e => e
theorem Kp.trans {p l : Addr} {H H1 H2 : Hp} (a : Kp p l H H1) (b : Kp p l H1 H2) : Kp p l H H2 := fun c o h1 h2 e => b c o h1 h2 (a c o h1 h2 e)
theorem Kp.upd {p l q : Addr} {o : HO} {H H1 : Hp} (a : Kp p l H H1) (h : H1 q = none) : Kp p l H (L2.upd H1 q o) := fun c u h1 h2 e => same_upd h c u (a c u h1 h2 e)
theorem Kp.updp {p l : Addr} {o : HO} {H H1 : Hp} (a : Kp p l H H1) : Kp p l H (L2.upd H1 p o) := fun c u h1 h2 e => by
  rw [upd_ne h1]
  exact a c u h1 h2 e
theorem Kp.updl {p l : Addr} {o : HO} {H H1 : Hp} (a : Kp p l H H1) : Kp p l H (L2.upd H1 l o) := fun c u h1 h2 e => by
  rw [upd_ne h2]
  exact a c u h1 h2 e
theorem Sc.upd {p l q : Addr} {o : HO} {H : Hp} (a : Sc p l H) (h : H q = none) : Sc p l (L2.upd H q o) := by
  obtain ⟨n, ns, x, y, e1, e2, r⟩ := a
  exact ⟨n, ns, x, y, same_upd h _ _ e1, same_upd h _ _ e2, r⟩
theorem Sc.same {p l : Addr} {H H' : Hp} (a : Sc p l H) (h : Same H H') : Sc p l H' := by
  obtain ⟨n, ns, x, y, e1, e2, r⟩ := a
  exact ⟨n, ns, x, y, h _ _ e1, h _ _ e2, r⟩
theorem Kp.of_same {p l : Addr} {H H' : Hp} (h : Same H H') : Kp p l H H' := fun b o _ _ e => h b o e
theorem Sc.ne {p l b : Addr} {H : Hp} (a : Sc p l H) (h : H b = none) : b ≠ p ∧ b ≠ l := by
  obtain ⟨n, ns, x, y, e1, e2, r⟩ := a
  exact ⟨(ne_of_none e1 h).symm, (ne_of_none e2 h).symm⟩
/-- what was free behind is free ahead -/
theorem Kp.free {p l b : Addr} {H H' : Hp} (k : Kp p l H H') (a : Sc p l H') (h : H' b = none) : H b = none := by
  cases q : H b with
  | none => rfl
  | some o =>
    have n := a.ne h
    rw [k b o n.1 n.2 q] at h
    cases h
theorem dpAll_int {K : PySem.W.Frag} {H : Hp} : ∀ ns : List Int, DpAll K H (ns.map V.int) (ns.map PyData.int)
  | [] => .nil
  | n :: r => .cons (.int n) (dpAll_int r)
theorem canLay_ints : ∀ ns : List Int, PyData.canLayAll0 (ns.map PyData.int) = true
  | [] => by simp [PyData.canLayAll0]
  | n :: r => by
    have ih := canLay_ints r
    simp only [List.map_cons, PyData.canLayAll0, PyData.canLay0, Bool.true_and]
    exact ih
theorem depth_ints : ∀ ns : List Int, PyData.depthAll (ns.map PyData.int) ≤ 1
  | [] => by simp [PyData.depthAll]
  | n :: r => by
    have ih := depth_ints r
    simp only [List.map_cons, PyData.depthAll, PyData.depth]
    omega
theorem shaped_ints (ns : List Int) : SeqAt.shaped (.list (ns.map PyData.int)) = true := by
  have h1 := canLay_ints ns
  have h2 := depth_ints ns
  unfold SeqAt.shaped
  rw [show PyData.canLay0 (.list (ns.map PyData.int)) = PyData.canLayAll0 (ns.map PyData.int) by simp only [PyData.canLay0], h1, Bool.true_and]
  refine decide_eq_true ?_
  rw [show PyData.depth (.list (ns.map PyData.int)) = PyData.depthAll (ns.map PyData.int) + 1 by simp only [PyData.depth]]
  omega
theorem eqv_nil : ∀ ns : List Int, PyData.eqv (.list (ns.map PyData.int)) (.list []) = ns.isEmpty
  | [] => by simp [PyData.eqv, PyData.eqvAll]
  | n :: r => by simp [PyData.eqv, PyData.eqvAll]
theorem map_get {ns : List Int} {i : Nat} {x : V} (h : (ns.map V.int)[i]? = some x) : ∃ n, ns[i]? = some n ∧ x = .int n := by
  rw [List.getElem?_map] at h
  cases e : ns[i]? with
  | none =>
    rw [e] at h
    cases h
  | some n =>
    rw [e] at h
    exact ⟨n, rfl, (Option.some.inj h).symm⟩
theorem lg {m : Int} (h : 0 < m) (h2 : m ≤ 1000000) : m.natAbs.log2 < 9000 := Nat.lt_of_lt_of_le (PySem.Flt.log2_lt_of (by decide : 0 < 64) (by omega)) (by decide)
/-- what the top has left of each def's table -/
def TabsOf (q : Program) (mg : Str → Option Value) (h : Heap) : Prop := ∀ e ∈ recsOf q, ∃ a o fd c P, mg e.name = some (.ref a) ∧ h.get? a = some o ∧ o.data = .func fd ∧ fd.code = .ref c ∧ h.IsCode c P #[] ∧ h.TableAt c P #[]
/-- the end of a law that reaches defs with generator expressions -/
theorem walk_tab {l : PySem.W.OpenLaw} {n k : Nat} {q : Program} {loose : List Str} {XP : (Str → Option Value) → Heap → Prop} {YP : World → Heap → Prop} {d : DefRec} {K : Params → PySem.W.Frag} {x : Str}
    (hn : l.most = some n) (hn2 : n ≤ sizeLine) (hdf : d.params.defaults = []) (hr : Room k callerA) (hY : ∀ (w : World) (h : Heap), YP w h → (K w.params).In h)
    (F : ∀ (w : World) (mg : Str → Option Value) (fa : Addr) (h : Heap), (K w.params).In h → h.Ns mainGlobals mg → mg d.name = some (.ref fa) → TabsOf q mg h → LamX.LawAtS l w (K w.params) CX0 k n x mg fa h) :
    PySem.W.WalkO q loose XP YP l.row.toRowW d [] (fun f vs => PySem.call f vs) := by
  refine Att.attach_callB hn hdf fun w t0 t1 mg mb fa o pm cd doc a vs ns G Y _ _ _ hmg hobj hints hlen hbits hg => ?_
  obtain ⟨fd, cs, sp, hT, nT, C, hb, hsp, hF⟩ := F w mg fa _ (hY w _ Y) G.T.g hmg G.T.tab
  refine LamX.law_callTs (hY w _ Y) G.T.g G.T.b G.T.builtins G.T.nolimit hg hT nT C G.T.bmain hobj hints ?_ hr hF hb ?_ fun _ _ _ z => z
  · exact Nat.le_trans hlen hn2
  · exact fun H hH hS => hsp H a ns hlen hbits hH hS
/-- the table of the def f, whose code object the head has written out -/
theorem tab_of {q : Program} {mg : Str → Option Value} {h : Heap} {K : PySem.W.Frag} {f c P : Addr} {x qual : Str} {params : Arguments} {body : List Stmt} {scope : Scope} {oc kV doc pm ct e : Value} {od an dd : Option Addr} {osl sl : Array (Option Value)} {vs : Array Value} (X : K.In h) (T : TabsOf q mg h)
    (hr : ((recsOf q).any fun e => e.name == x) = true) (hf : mg x = some (.ref f)) (lk : K.lookup f = some ⟨oc, od, .func (PySem.W.fnOf x qual params body scope .none kV doc pm an (.ref c) ct), osl⟩)
    (lc : K.lookup c = some ⟨e, dd, .fields vs, sl⟩) (h11 : vs[11]? = some (.ref P)) : h.get? P = some { cls := .none, data := .fields #[] } ∧ PySem.W.CodeHd h c P := by
  obtain ⟨r, hm, hn⟩ := List.any_eq_true.mp hr
  have hn' : r.name = x := beq_iff_eq.mp hn
  obtain ⟨a, o, fd, c', P', h1, h2, h3, h4, h5, h6⟩ := T r hm
  rw [hn', hf] at h1
  cases h1
  rw [X _ _ lk] at h2
  cases h2
  cases h3
  cases h4
  have hd := PySem.W.CodeHd.of h5 h6
  obtain ⟨⟨oc', vc, e1, _, e3, e4⟩, hP⟩ := h6
  rw [X _ _ lc] at e1
  cases e1
  cases e3
  rw [h11] at e4
  cases e4
  exact ⟨hP, hd⟩
def topS (i : Nat) : Stmt := PySem.Challenge.pw_traymap_k01_what_is_a_crate.main.body.getD i (.Pass ⟨0, 0, 0, 0⟩)
abbrev sWhole : Stmt := topS 3
abbrev sTray : Stmt := topS 4
abbrev sIsCrate : Stmt := topS 5
abbrev sSource : Stmt := topS 7
abbrev sNext : Stmt := topS 8
abbrev sThing : Stmt := topS 9
abbrev sDue : Stmt := topS 10
abbrev sLaw : Stmt := topS 11
theorem scWhole : FnScope ["thing"] ["thing"] (defScope sWhole) := ⟨rfl, rfl, rfl, by decide +kernel, rfl, by decide +kernel, by decide +kernel⟩
theorem scTray : FnScope ["thing"] ["thing"] (defScope sTray) := ⟨rfl, rfl, rfl, by decide +kernel, rfl, by decide +kernel, by decide +kernel⟩
theorem scIsCrate : FnScope ["thing"] ["thing"] (defScope sIsCrate) := ⟨rfl, rfl, rfl, by decide +kernel, rfl, by decide +kernel, by decide +kernel⟩
theorem scSource : FnScope ["script", "seed", "cell"] ["script"] (defScope sSource) := ⟨rfl, rfl, rfl, by decide +kernel, rfl, by decide +kernel, by decide +kernel⟩
theorem scNext : FnScope ["source", "many", "cell", "drawn"] ["source", "many"] (defScope sNext) := ⟨rfl, rfl, rfl, by decide +kernel, rfl, by decide +kernel, by decide +kernel⟩
theorem scThing : FnScope ["source", "way", "size", "row", "more", "odd", "k"] ["source"] (defScope sThing) := ⟨rfl, rfl, rfl, by decide +kernel, rfl, by decide +kernel, by decide +kernel⟩
theorem scDue : FnScope ["thing", "wells"] ["thing"] (defScope sDue) := ⟨rfl, rfl, rfl, by decide +kernel, rfl, by decide +kernel, by decide +kernel⟩
theorem scLaw : FnScope ["script", "source", "turn", "thing", "due", "found"] ["script"] (defScope sLaw) := ⟨rfl, rfl, rfl, by decide +kernel, rfl, by decide +kernel, by decide +kernel⟩
/-! ### things -/
def whole : V → Bool
  | .int _ => true
  | _ => false
def okItem : V → Bool
  | .int i => decide (0 ≤ i) && decide (i ≤ 12)
  | _ => false
/-- None, a truth, a number, a text, a list -/
def NoTup (H : Hp) (x : V) : Prop := (∃ i, x = .int i) ∨ (∃ b, x = .bl b) ∨ x = .non ∨ (∃ z, x = .str z) ∨ ∃ a ys, x = .ref a ∧ H a = some (.lst ys)
def Item (H : Hp) (x : V) : Prop := NoTup H x ∨ ∃ a ys, x = .ref a ∧ H a = some (.tup ys)
theorem notup_ty {K : PySem.W.Frag} {H : Hp} {x : V} (h : NoTup H x) : ∃ (t : String) (bi bb : Bool), TyX K H x (.type t) ∧ kitB t "tuple" = some false ∧ kitB t "int" = some bi ∧ kitB t "bool" = some bb ∧ (bi && !bb) = whole x := by
  rcases h with ⟨i, rfl⟩ | ⟨b, rfl⟩ | rfl | ⟨z, rfl⟩ | ⟨a, ys, rfl, e⟩
  · exact ⟨"int", true, false, .base (.int i), by decide +kernel, by decide +kernel, by decide +kernel, rfl⟩
  · exact ⟨"bool", true, true, .base (.bl b), by decide +kernel, by decide +kernel, by decide +kernel, rfl⟩
  · exact ⟨"NoneType", false, false, .base .non, by decide +kernel, by decide +kernel, by decide +kernel, rfl⟩
  · exact ⟨"str", false, false, .base (.str z), by decide +kernel, by decide +kernel, by decide +kernel, rfl⟩
  · exact ⟨"list", false, false, .base (.lst e), by decide +kernel, by decide +kernel, by decide +kernel, rfl⟩
theorem item_ty {K : PySem.W.Frag} {H : Hp} {x : V} (h : Item H x) : ∃ (t : String) (bi bb : Bool), TyX K H x (.type t) ∧ kitB t "int" = some bi ∧ kitB t "bool" = some bb ∧ (bi && !bb) = whole x := by
  rcases h with h | ⟨a, ys, rfl, e⟩
  · obtain ⟨t, bi, bb, h1, _, r⟩ := notup_ty (K := K) h
    exact ⟨t, bi, bb, h1, r⟩
  · exact ⟨"tuple", false, false, .base (.tup e), by decide +kernel, by decide +kernel, rfl⟩
theorem whole_int {x : V} (h : whole x = true) : ∃ i, x = .int i := by
  cases x <;> first | exact ⟨_, rfl⟩ | cases h
theorem NoTup.keep {H H' : Hp} {x : V} (h : NoTup H x) (k : ∀ a ys, x = .ref a → H a = some (.lst ys) → H' a = some (.lst ys)) : NoTup H' x := by
  rcases h with h | h | h | h | ⟨a, ys, e, q⟩
  · exact .inl h
  · exact .inr (.inl h)
  · exact .inr (.inr (.inl h))
  · exact .inr (.inr (.inr (.inl h)))
  · exact .inr (.inr (.inr (.inr ⟨a, ys, e, k a ys e q⟩)))
theorem Item.keep {H H' : Hp} {x : V} (h : Item H x) (k : ∀ a o, x = .ref a → H a = some o → H' a = some o) : Item H' x := by
  rcases h with h | ⟨a, ys, e, q⟩
  · exact .inl (h.keep fun a ys e q => k a _ e q)
  · exact .inr ⟨a, ys, e, k a _ e q⟩
theorem item_kit {X : Cx} {pins : List (Addr × Obj)} {σ : L2.St} {H : Hp} {s : Shared} {x : V} {u : Value} {P : Addr} {ps : Array Value} (I : Inv X pins σ H s) (r : RelV x u) (it : Item H x) (hP : H P = some (.tbl ps)) :
    ∃ (t : String) (Hk : Heap → Prop) (bi bb : Bool), PySem.W.KitX X.K u (.type t) Hk ∧ (∀ h : Heap, (∀ a o, a ≠ P → s.heap.get? a = some o → h.get? a = some o) → Hk h) ∧ u ≠ .builtin "__main__.__loader__#opaque" ∧ kitB t "int" = some bi ∧ kitB t "bool" = some bb ∧ (bi && !bb) = whole x := by
  have nP : ∀ {a : Addr} {o : HO}, H a = some o → (∀ q, o ≠ .tbl q) → a ≠ P := fun {a o} e n z => by
    rw [z, hP] at e
    exact n ps (Option.some.inj e).symm
  rcases it with (⟨i, rfl⟩ | ⟨b, rfl⟩ | rfl | ⟨z, rfl⟩ | ⟨a, ys, rfl, e⟩) | ⟨a, ys, rfl, e⟩
  · obtain ⟨t, rfl⟩ := r
    exact ⟨"int", _, true, false, PySem.W.kitx_int, fun _ _ => True.intro, (fun q => by cases q), by decide +kernel, by decide +kernel, rfl⟩
  · cases r
    exact ⟨"bool", _, true, true, PySem.W.kitx_bool, fun _ _ => True.intro, (fun q => by cases q), by decide +kernel, by decide +kernel, rfl⟩
  · cases r
    exact ⟨"NoneType", _, false, false, PySem.W.kitx_none, fun _ _ => True.intro, (fun q => by cases q), by decide +kernel, by decide +kernel, rfl⟩
  · obtain ⟨t, rfl⟩ := r
    exact ⟨"str", _, false, false, PySem.W.kitx_str, fun _ _ => True.intro, (fun q => by cases q), by decide +kernel, by decide +kernel, rfl⟩
  · cases r
    obtain ⟨_, _, n, _, h1⟩ := (show ObjOk X.prog X.w H s.heap a (.lst ys) from I.hok a _ e)
    exact ⟨"list", _, false, false, PySem.W.kitx_list, fun h k => ⟨_, k a _ (nP e fun q z => by cases z) h1, rfl⟩, (fun q => by cases q), by decide +kernel, by decide +kernel, rfl⟩
  · cases r
    obtain ⟨_, _, _, o, h1, h2, _⟩ := (show ObjOk X.prog X.w H s.heap a (.tup ys) from I.hok a _ e)
    exact ⟨"tuple", _, false, false, PySem.W.kitx_tuple, fun h k => ⟨o, k a _ (nP e fun q z => by cases z) h1, h2⟩, (fun q => by cases q), by decide +kernel, by decide +kernel, rfl⟩
theorem stays_ns {hm : Heap → Prop} {L : Addr} {x : Str} {u : Value} (st : Stays hm) : Stays (fun h => hm h ∧ ∃ m, h.Ns L m ∧ m x = some u) := fun h h' k q => by
  obtain ⟨q1, m, q2, q3⟩ := q
  exact ⟨st h h' k q1, m, q2.keeps k, q3⟩
theorem stays_old {P : Addr} {h0 : Heap} : Stays (fun h => ∀ a o, a ≠ P → h0.get? a = some o → h.get? a = some o) := fun h h' k q a o n e => k a o (q a o n e)
section
variable {prog : Program} {w : World} {K : PySem.W.Frag} {mg : Str → Option Value} {D : Nat} {env : Env} {hm : Heap → Prop}
/-- is_whole(a), whatever stands around -/
theorem lo_whole {fW : Addr} {fdW : FuncData} {p0 p1 pos : Pos} {y : Str} {u : Value} {t : String} {Hk : Heap → Prop} {bi bb : Bool} (F : Fun K "is_whole" "is_whole" sWhole fW fdW) (bW : Binds K fdW ["thing"] []) (gW : mg "is_whole" = some (.ref fW))
    (mi : mg "isinstance" = none) (mint : mg "int" = none) (mbool : mg "bool" = none) (st : Stays hm) (hk : env.scope.kind = .function) (hg : env.globals = mainGlobals) (lf : env.kindOf "is_whole" = some .globalImplicit) (hD : D < recursionLimit)
    (ha : Lo prog w K mg D env hm (.Name y p1) (fun r => r = u)) (Z : PySem.W.KitX K u (.type t) Hk) (hK : ∀ h, hm h → Hk h) (hx : u ≠ .builtin "__main__.__loader__#opaque") (e1 : kitB t "int" = some bi) (e2 : kitB t "bool" = some bb) :
    Lo prog w K mg D env hm (.Call (.Name "is_whole" p0) [.Name y p1] [] pos) (fun r => r = .bool (bi && !bb)) := by
  obtain ⟨oc, od, kV, doc, pm, an, cdv, ct, osl, rfl, lk, hcd⟩ := F.ex
  refine lo_call st hk hg lf gW hD lk hcd F.kp scWhole bW rfl ha fun env' hs hg' hb' => ?_
  have hk' : env'.scope.kind = .function := by rw [hs]; rfl
  have li : env'.kindOf "isinstance" = some .globalImplicit := by show env'.scope.names.lookup _ = _; rw [hs]; rfl
  have l1 : env'.kindOf "int" = some .globalImplicit := by show env'.scope.names.lookup _ = _; rw [hs]; rfl
  have l2 : env'.kindOf "bool" = some .globalImplicit := by show env'.scope.names.lookup _ = _; rw [hs]; rfl
  have l3 : env'.kindOf "thing" = some .local := by show env'.scope.names.lookup _ = _; rw [hs]; rfl
  refine lo_and (c := bi) (stays_ns st) (lo_isi (stays_ns st) hk' hg' hb' li mi l1 mint (by decide +kernel) (lo_name hk' l3 fun h q => q.2) Z (fun h q => hK h q.1) (kit_ty e1) hx) (fun e => ?_) fun e => lo_one ((lo_not (lo_isi (stays_ns st) hk' hg' hb' li mi l2 mbool (by decide +kernel) (lo_name hk' l3 fun h q => q.2) Z (fun h q => hK h q.1) (kit_ty e2) hx)).imp fun r q => ?_)
  · rw [e]
    rfl
  · rw [q, e]
    rfl
end
/-- is_tray(wells) as the element of a generator expression -/
theorem elt_tray {X : Cx} {P fW fT : Addr} {fdW fdT : FuncData} {scope : Scope} {p0 p1 pos : Pos} {tw : Tok} {k : Nat} (hr : Room (k + 2) X.A) (hk : scope.kind = .function) (l1 : scope.names.lookup ("is_tray" : Str) = some .globalImplicit) (l2 : scope.names.lookup ("wells" : Str) = some .local)
    (FW : Fun X.K "is_whole" "is_whole" sWhole fW fdW) (bW : Binds X.K fdW ["thing"] []) (gW : X.mg "is_whole" = some (.ref fW)) (FT : Fun X.K "is_tray" "is_tray" sTray fT fdT) (bT : Binds X.K fdT ["thing"] []) (gT : X.mg "is_tray" = some (.ref fT))
    (gM : X.mg "MOST_WELLS" = some (.int 12 tw)) (mi : X.mg "isinstance" = none) (mint : X.mg "int" = none) (mbool : X.mg "bool" = none) :
    EltOk X P scope "wells" (.Call (.Name "is_tray" p0) [.Name "wells" p1] [] pos) (fun H v b => Item H v ∧ b = okItem v ∧ ∃ ps, H P = some (.tbl ps)) := by
  intro pins σ H s v u b I r hC cenv hs hg hb
  obtain ⟨it, rfl, ps, hP⟩ := hC
  obtain ⟨t, Hk, bi, bb, Z, hK, hx, e1, e2, e3⟩ := item_kit I r it hP
  have hdp := hr.dp
  obtain ⟨oc, od, kV, doc, pm, an, cdv, ct, osl, rfl, lk, hcd⟩ := FT.ex
  have st := stays_ns (L := cenv.locals) (x := "wells") (u := u) (stays_old (P := P) (h0 := s.heap))
  refine lo_call st (by rw [hs]; exact hk) (hg.trans I.ok.glob) (by show cenv.scope.names.lookup _ = _; rw [hs]; exact l1) gT (by omega) lk hcd FT.kp scTray bT rfl
    (lo_name (by rw [hs]; exact hk) (by show cenv.scope.names.lookup _ = _; rw [hs]; exact l2) fun h q => q.2) fun env' hs' hg' hb' => ?_
  have hk' : env'.scope.kind = .function := by rw [hs']; rfl
  have l3 : env'.kindOf "thing" = some .local := by show env'.scope.names.lookup _ = _; rw [hs']; rfl
  have l4 : env'.kindOf "is_whole" = some .globalImplicit := by show env'.scope.names.lookup _ = _; rw [hs']; rfl
  have l5 : env'.kindOf "MOST_WELLS" = some .globalImplicit := by show env'.scope.names.lookup _ = _; rw [hs']; rfl
  refine lo_and (c := whole v) (stays_ns st) ((lo_whole FW bW gW mi mint mbool (stays_ns st) hk' hg' l4 (by omega) (lo_name hk' l3 fun h q => q.2) Z (fun h q => hK h q.1.1) hx e1 e2).imp fun r q => ?_) (fun e => ?_) fun e => lo_one ?_
  · rw [q, e3]
  · cases v <;> first | rfl | cases e
  · obtain ⟨i, rfl⟩ := whole_int e
    obtain ⟨tk, rfl⟩ := r
    exact (lo_chain (stays_ns st) lo_int ((lo_name hk' l3 fun h q => q.2).imp fun r q => ⟨tk, q⟩) ((lo_glob hk' l5 hg' gM).imp fun r q => ⟨tw, q⟩)).imp fun r q => q
/-! ### is_crate -/
def Thing (H : Hp) (v : V) : Prop := (∃ a xs, v = .ref a ∧ H a = some (.tup xs) ∧ ∀ x ∈ xs, Item H x) ∨ NoTup H v
def CrB (H : Hp) (v : V) (b : Bool) : Prop := (∃ a xs, v = .ref a ∧ H a = some (.tup xs) ∧ b = (decide (xs.length ≤ 60) && xs.all okItem)) ∨ (NoTup H v ∧ b = false)
def spIsCrate (P : Addr) : Sp := fun vs H Q _ => ∃ v, vs = [v] ∧ Thing H v ∧ GxR.TabG H P ∧ ∀ b H', CrB H v b → GxR.Tabbed P H H' → Q (.bl b) H'
section
variable {P : Program} {w : World} {K : PySem.W.Frag} {mg : Str → Option Value} {base : Heap}
theorem ok_iscrate {f fW fT c Pt : Addr} {fdW fdT : FuncData} {oc kV doc pm ct : Value} {od an : Option Addr} {osl : Array (Option Value)} {tw tt : Tok} {k : Nat}
    (lk : K.lookup f = some ⟨oc, od, .func (PySem.W.fnOf "is_crate" "is_crate" (defArgs sIsCrate) (defBody sIsCrate) (defScope sIsCrate) .none kV doc pm an (.ref c) ct), osl⟩) (hcd : PySem.W.codeIn K (.ref c) "is_crate" = true) (TB : GxR.TabB base mg c Pt)
    (FW : Fun K "is_whole" "is_whole" sWhole fW fdW) (bW : Binds K fdW ["thing"] []) (gW : mg "is_whole" = some (.ref fW)) (FT : Fun K "is_tray" "is_tray" sTray fT fdT) (bT : Binds K fdT ["thing"] []) (gT : mg "is_tray" = some (.ref fT))
    (gM : mg "MOST_WELLS" = some (.int 12 tw)) (gMT : mg "MOST_TRAYS" = some (.int 60 tt)) (mi : mg "isinstance" = none) (mint : mg "int" = none) (mbool : mg "bool" = none) (mtup : mg "tuple" = none) (mlen : mg "len" = none) (mall : mg "all" = none) :
    FnOk P w K mg base CX0 (k + 2 + 1) f (PySem.W.fnOf "is_crate" "is_crate" (defArgs sIsCrate) (defBody sIsCrate) (defScope sIsCrate) .none kV doc pm an (.ref c) ct) ["thing"] (spIsCrate Pt) := by
  refine fn_of lk hcd scIsCrate (fun vs H Q E h => ?_) (fun A outer s H vs Q E hr h => ?_)
  · obtain ⟨v, rfl, _⟩ := h
    rfl
  · obtain ⟨v, rfl, hv, hG, q⟩ := h
    refine ⟨_, PSs.nox (pss_cons (ps_if (PW.pt (pw_or (pt_not (pt_val (pe_callB call_isi (by rfl) mi (by decide +kernel) (pa_cons (pv 0) (pa_cons (pe_bltn (v := .ty "tuple") (by rfl) mtup (by decide +kernel) rfl) pa_nil)))))
        (pw_or1 (pt_cmpR op_gt (pe_callB call_len_seq (by rfl) mlen PySem.boot_len (pa_cons (pv 0) pa_nil)) (pe_glob (v := .int 60) rfl gMT ⟨_, rfl⟩) (nomark _)))))
        (pss_one (ps_ret pe_bl)) pss_nil)
      (pss_one (ps_ret (pe_allT (c := c) (P := Pt) hr rfl mall TB rfl ⟨rfl, rfl, by decide +kernel, rfl, rfl, fun y hy hf => absurd hf (by revert y; decide +kernel)⟩ (pv 0)
        (elt_tray hr rfl rfl rfl FW bW gW FT bT gT gM mi mint mbool) (fun _ => rfl))))), ?_⟩
    rcases hv with ⟨a, xs, rfl, ha, hxs⟩ | hv
    · refine ⟨.ref a, rfl, _, _, _, _, true, rfl, .ty "tuple", .base (.tup ha), kit_ty (by decide +kernel), _, rfl, ?_⟩
      refine iteF ?_
      refine ⟨.ref a, rfl, a, xs, rfl, .inr (SqT.of ha), _, _, rfl, rfl, _, rfl, ite2 (fun e => ?_) (fun e => ?_)⟩
      · have e' := of_decide_eq_true e
        refine q false H (.inl ⟨a, xs, rfl, ha, ?_⟩) ⟨hG, fun _ _ => rfl⟩
        rw [decide_eq_false (by omega), Bool.false_and]
      · have e' : ¬ ((60 : Int) < (xs.length : Int)) := fun z => e (decide_eq_true z)
        refine ⟨.ref a, rfl, a, xs, xs.map okItem, rfl, SqT.of ha, by rw [List.length_map], fun i x b h1 h2 => ?_, hG, fun H2 hT => ?_⟩
        · rw [List.getElem?_map, h1] at h2
          obtain ⟨ps, hP, _⟩ := hG
          exact ⟨hxs x (List.mem_of_getElem? h1), (Option.some.inj h2).symm, ps, hP⟩
        · refine q _ H2 (.inl ⟨a, xs, rfl, ha, ?_⟩) hT
          rw [decide_eq_true (by omega), Bool.true_and, List.all_map]
          rfl
    · obtain ⟨t, bi, bb, h1, h2, _⟩ := notup_ty (K := K) hv
      refine ⟨v, rfl, _, _, _, _, false, rfl, .ty "tuple", h1, kit_ty h2, _, rfl, ?_⟩
      refine iteT ?_
      exact q false H (.inr ⟨hv, rfl⟩) ⟨hG, fun _ _ => rfl⟩
end
section
variable {P : Program} {w : World} {K : PySem.W.Frag} {mg : Str → Option Value} {base : Heap}
/-! ### _law_next -/
def spNext : Sp := fun vs H Q _ => ∃ (p l : Addr) (m : Int), vs = [.ref p, .int m] ∧ Sc p l H ∧ 0 < m ∧ m.natAbs.log2 < 9000 ∧ ∀ r H', 0 ≤ r → r < m → Sc p l H' → Kp p l H H' → Q (.int r) H'
theorem ok_next {f : Addr} {fd : FuncData} {k : Nat} (F : Fun K "_law_next" "_law_next" sNext f fd) (mabs : mg "abs" = none) : FnOk P w K mg base CX0 (k + 1) f fd ["source", "many"] spNext := by
  refine F.ok scNext (fun vs H Q E h => ?_) (fun cdv A outer s H vs Q E hr h => ?_)
  · obtain ⟨p, l, m, rfl, _⟩ := h
    rfl
  · obtain ⟨p, l, m, rfl, hS, hm, hw, q⟩ := h
    refine ⟨_, C8.pss_cut (ps_if (PW.pt (pw_and (pt_cmpR op_eq (pe_ix ix_list (pv 0) pe_int (fun _ _ => rfl)) pe_int (nomark _)) (pw_and1 (pt_cmpR (op_neD hr.units) (pe_ix ix_list (pv 0) pe_int (fun _ _ => rfl)) (pe_lst pa_nil) (nomark _)))))
        (pss_cons (ps_set (i := 2) scNext.nd rfl (.inl rfl) (pe_bm PySem.F.plainAttrs_list PySem.F.slot_list_pop PySem.F.type_list_pop mt_popAt (pe_ix ix_list (pv 0) pe_int (fun _ _ => rfl)) (pa_cons pe_int pa_nil)))
        (pss_cons (ps_if (pt_cmpR op_lt (pe_callB call_abs (by rfl) mabs (by decide +kernel) (pa_cons (pv 2) pa_nil)) (pe_op op_pow pe_int pe_int) (nomark _)) (pss_one (ps_ret (pe_op op_mod (pv 2) (pv 1)))) pss_nil)
        (pss_one (ps_asg (pe_callB call_abs (by rfl) mabs (by decide +kernel) (pa_cons (pv 2) pa_nil)) (pg_sub (pv 0) pe_int set_list)))))
        pss_nil)
      (pss_cons (ps_if (pt_cmpR op_gt (pe_ix ix_list (pv 0) pe_int (fun _ _ => rfl)) pe_int (nomark _))
          (pss_cons (ps_set (i := 3) scNext.nd rfl (.inl rfl) (pe_op op_mod (pe_ix ix_list (pv 0) pe_int (fun _ _ => rfl)) (pv 1)))
          (pss_cons (ps_asg (pe_op op_fdivW (pe_ix ix_list (pv 0) pe_int (fun _ _ => rfl)) (pv 1)) (pg_sub (pv 0) pe_int set_list))
          (pss_one (ps_ret (pv 3))))) pss_nil)
      (pss_cons (ps_asg (pe_op op_mod (pe_op op_add (pe_op op_mul (pe_ix ix_list (pv 0) pe_int (fun _ _ => rfl)) (pe_ix ix_list (pv 0) pe_int (fun _ _ => rfl))) pe_int) pe_int) (pg_sub (pv 0) pe_int set_list))
      (pss_one (ps_ret (pe_op op_mod (pe_op op_fdiv (pe_ix ix_list (pv 0) pe_int (fun _ _ => rfl)) pe_int) (pv 1)))))), ?_⟩
    refine ⟨fun σ' H' => ∃ c2 c3, σ' = [some (.ref p), some (.int m), c2, c3] ∧ Sc p l H' ∧ Kp p l H H', ?_, fun σ' H' hM => ?_⟩
    · obtain ⟨npl, ns, a, b, hp, hl, ha, hb, hb2⟩ := hS
      -- source[1] == 0
      refine ⟨.ref p, rfl, p, _, 1, .int a, rfl, rfl, SqL.of hp, atI_nat (j := 1) rfl, rfl, _, rfl, ?_⟩
      by_cases e1 : ¬ a = 0
      · rw [decide_eq_false (show ¬ (V.int a = V.int 0) from fun z => e1 (V.int.inj z))]
        refine iteF (iteF ?_)
        exact ⟨_, _, rfl, ⟨npl, ns, a, b, hp, hl, ha, hb, hb2⟩, Kp.refl H⟩
      · have e1 : a = 0 := Decidable.of_not_not e1
        subst e1
        rw [decide_eq_true (show V.int 0 = V.int 0 from rfl)]
        refine iteT ?_
        -- source[0] != []
        refine ⟨.ref p, rfl, p, _, 0, .ref l, rfl, rfl, SqL.of hp, atI_nat (j := 0) rfl, Nat.zero_le _, fun e he => ?_⟩
        have hp1 : (upd H e (.lst [])) p = some (.lst [.ref l, .int 0, .int b]) := same_upd he _ _ hp
        have hl1 : (upd H e (.lst [])) l = some (.lst (ns.map V.int)) := same_upd he _ _ hl
        refine ⟨.list (ns.map PyData.int), .list [], .lst (SqL.of hl1) (dpAll_int ns), .lst (SqL.of upd_same) .nil, shaped_ints ns, shaped_ints [], _, rfl, ?_⟩
        rw [eqv_nil]
        cases ns with
        | nil =>
          refine iteF ?_
          exact ⟨_, _, rfl, ⟨npl, [], 0, b, hp1, hl1, ha, hb, hb2⟩, (Kp.refl H).upd he⟩
        | cons n r =>
          refine iteT ?_
          -- cell = source[0].pop(0)
          refine ⟨.ref p, rfl, p, _, 0, .ref l, rfl, rfl, SqL.of hp1, atI_nat (j := 0) rfl, .inl ⟨rfl, _, SqL.of hl1⟩, l, _, 0, 0, .int n, rfl, rfl, hl1, by decide, by decide, ?_, rfl, ?_⟩
          · unfold seqIndex?
            simp
          · -- abs(cell) < 10 ** 18
            have hp2 : (upd (upd H e (.lst [])) l (.lst (((n :: r).map V.int).eraseIdx 0))) p = some (.lst [.ref l, .int 0, .int b]) := by
              rw [upd_ne npl]
              exact hp1
            have hl2 : (upd (upd H e (.lst [])) l (.lst (((n :: r).map V.int).eraseIdx 0))) l = some (.lst (r.map V.int)) := upd_same
            have k2 : Kp p l H (upd (upd H e (.lst [])) l (.lst (((n :: r).map V.int).eraseIdx 0))) := ((Kp.refl H).upd he).updl
            refine ⟨.int n, rfl, n, rfl, _, _, rfl, rfl, ⟨by decide, by decide, by decide⟩, _, _, rfl, rfl, _, rfl, ite2 (fun _ => ?_) (fun _ => ?_)⟩
            · refine ⟨.int n, rfl, .int m, rfl, n, m, rfl, rfl, hm, ?_⟩
              exact q _ _ (Int.emod_nonneg _ (by omega)) (Int.emod_lt_of_pos _ hm) ⟨npl, r, 0, b, hp2, hl2, ha, hb, hb2⟩ k2
            · -- source[1] = abs(cell)
              refine ⟨.int n, rfl, n, rfl, .ref p, rfl, p, _, 1, 1, rfl, rfl, hp2, rfl, ?_⟩
              refine ⟨_, _, rfl, ⟨npl, r, if n < 0 then -n else n, b, upd_same, ?_, ?_, hb, hb2⟩, k2.updp⟩
              · rw [upd_ne npl.symm]
                exact hl2
              · split <;> omega
    · -- the rest
      obtain ⟨c2, c3, rfl, ⟨npl, ns, a, b, hp, hl, ha, hb, hb2⟩, k1⟩ := hM
      refine ⟨.ref p, rfl, p, _, 1, .int a, rfl, rfl, SqL.of hp, atI_nat (j := 1) rfl, _, _, rfl, rfl, _, rfl, ite2 (fun e => ?_) (fun e => ?_)⟩
      · -- drawn = source[1] % many
        refine ⟨.ref p, rfl, p, _, 1, .int a, rfl, rfl, SqL.of hp, atI_nat (j := 1) rfl, .int m, rfl, a, m, rfl, rfl, hm, ?_⟩
        -- source[1] = source[1] // many
        refine ⟨.ref p, rfl, p, _, 1, .int a, rfl, rfl, SqL.of hp, atI_nat (j := 1) rfl, .int m, rfl, a, m, rfl, rfl, ⟨hm, hw⟩, .ref p, rfl, p, _, 1, 1, rfl, rfl, hp, rfl, ?_⟩
        refine ⟨_, rfl, ?_⟩
        refine q _ _ (Int.emod_nonneg _ (by omega)) (Int.emod_lt_of_pos _ hm) ⟨npl, ns, a / m, b, upd_same, ?_, Int.ediv_nonneg ha (by omega), hb, hb2⟩ k1.updp
        rw [upd_ne npl.symm]
        exact hl
      · -- source[2] = (source[2] * source[2] + 1000003) % 998244353
        refine ⟨.ref p, rfl, p, _, 2, .int b, rfl, rfl, SqL.of hp, atI_nat (j := 2) rfl, .ref p, rfl, p, _, 2, .int b, rfl, rfl, SqL.of hp, atI_nat (j := 2) rfl, b, b, rfl, rfl, .inl ⟨by omega, by omega⟩, _, _, rfl, rfl, _, 998244353, rfl, rfl, (show (0 : Int) < 998244353 by decide), .ref p, rfl, p, _, 2, 2, rfl, rfl, hp, rfl, ?_⟩
        have hp3 : (upd H' p (.lst [.ref l, .int a, .int ((b * b + 1000003) % 998244353)])) p = some (.lst [.ref l, .int a, .int ((b * b + 1000003) % 998244353)]) := upd_same
        refine ⟨.ref p, rfl, p, _, 2, .int ((b * b + 1000003) % 998244353), rfl, rfl, SqL.of hp3, atI_nat (j := 2) rfl, _, _, rfl, rfl, ⟨by decide, by decide⟩, .int m, rfl, _, m, rfl, rfl, hm, ?_⟩
        refine q _ _ (Int.emod_nonneg _ (by omega)) (Int.emod_lt_of_pos _ hm) ⟨npl, ns, a, (b * b + 1000003) % 998244353, hp3, ?_, ha, by omega, by omega⟩ k1.updp
        rw [upd_ne npl.symm]
        exact hl
/-! ### _law_source -/
def spSource (K : PySem.W.Frag) : Sp := fun vs H Q _ => ∃ (a : Addr) (ns : List Int), vs = [.ref a] ∧ SqL K H a (ns.map V.int) ∧ ∀ p l H', Same H H' → H p = none → H l = none → Sc p l H' → Q (.ref p) H'
theorem ok_source {f : Addr} {fd : FuncData} {k : Nat} (F : Fun K "_law_source" "_law_source" sSource f fd) (ml : mg "list" = none) : FnOk P w K mg base CX0 (k + 1) f fd ["script"] (spSource K) := by
  refine F.ok scSource (fun vs H Q E h => ?_) (fun cdv A outer s H vs Q E hr h => ?_)
  · obtain ⟨a, ns, rfl, _⟩ := h
    rfl
  · obtain ⟨a, ns, rfl, hS, q⟩ := h
    refine ⟨_, pss_cons (ps_set (i := 1) scSource.nd rfl (.inl rfl) pe_int)
      (pss_cons (ps_for PassesOwn.never rfl (pi_list (pv 0)) (pg_name (i := 2) scSource.nd rfl (.inl rfl))
        (pss_one (ps_set (i := 1) scSource.nd rfl (.inl rfl) (pe_op op_mod (pe_op op_add (pe_op op_mul (pv 1) pe_int) (pv 2)) pe_int))))
      (pss_one (ps_ret (pe_lst (pa_cons (pe_callTy call_list_of (by rfl) ml (by decide +kernel) (pa_cons (pv 0) pa_nil)) (pa_cons pe_int (pa_cons (pv 1) pa_nil))))))), ?_⟩
    refine ⟨.ref a, rfl, a, rfl, ⟨_, hS⟩, for_list (K := K) (xs := ns.map V.int) (fun i σ H1 => ∃ c s2, σ = [some (.ref a), some (.int c), s2] ∧ 0 ≤ c ∧ c < 998244353 ∧ H1 = H) ⟨_, _, rfl, by decide, by decide, rfl⟩ (fun i σ H1 _ h => ?_) (fun i x σ H1 hx h => ?_) (fun σ H1 h => ?_)⟩
    · obtain ⟨c, s2, rfl, _, _, rfl⟩ := h
      exact hS
    · obtain ⟨c, s2, rfl, h1, h2, rfl⟩ := h
      obtain ⟨n, _, rfl⟩ := map_get hx
      refine ⟨_, rfl, c, _, rfl, rfl, .inl ⟨by omega, by omega⟩, _, rfl, _, n, rfl, rfl, _, 998244353, rfl, rfl, (show (0 : Int) < 998244353 by decide), ?_⟩
      exact ⟨_, _, rfl, Int.emod_nonneg _ (by decide), Int.emod_lt_of_pos _ (by decide), rfl⟩
    · obtain ⟨c, s2, rfl, h1, h2, rfl⟩ := h
      refine ⟨.ref a, rfl, a, _, rfl, .inl hS, fun l hl => ?_⟩
      refine ⟨_, rfl, (show 3 ≤ sizeLine by decide), fun p hp => ?_⟩
      have npl : p ≠ l := fun e => by
        rw [e, upd_same] at hp
        cases hp
      refine q p l _ ((same_upd hl).trans (same_upd hp)) ?_ hl ⟨npl, ns, 0, c, upd_same, ?_, by decide, h1, h2⟩
      · exact (same_upd hl).free hp
      · rw [upd_ne npl.symm, upd_same]
end
section
variable {P : Program} {w : World} {K : PySem.W.Frag} {mg : Str → Option Value} {base : Heap}
/-! ### _law_due -/
def spDue : Sp := fun vs H Q _ => ∃ v, vs = [v] ∧ Thing H v ∧ ∀ b, CrB H v b → Q (.bl b) H
theorem all_cut {xs : List V} {i : Nat} {x : V} (h : xs[i]? = some x) (e : okItem x = false) : xs.all okItem = false := by
  rw [List.all_eq_false]
  exact ⟨x, List.mem_of_getElem? h, by rw [e]; decide⟩
theorem ok_due {f : Addr} {fd : FuncData} {k : Nat} (F : Fun K "_law_due" "_law_due" sDue f fd) (mi : mg "isinstance" = none) (mint : mg "int" = none) (mbool : mg "bool" = none) (mtup : mg "tuple" = none) (mlen : mg "len" = none) : FnOk P w K mg base CX0 (k + 1) f fd ["thing"] spDue := by
  refine F.ok scDue (fun vs H Q E h => ?_) (fun cdv A outer s H vs Q E hr h => ?_)
  · obtain ⟨v, rfl, _⟩ := h
    rfl
  · obtain ⟨v, rfl, hv, q⟩ := h
    refine ⟨_, pss_cons (ps_if (PW.pt (pw_or (pt_not (pt_val (pe_callB call_isi (by rfl) mi (by decide +kernel) (pa_cons (pv 0) (pa_cons (pe_bltn (v := .ty "tuple") (by rfl) mtup (by decide +kernel) rfl) pa_nil)))))
        (pw_or1 (pt_cmpR op_gt (pe_callB call_len_seq (by rfl) mlen PySem.boot_len (pa_cons (pv 0) pa_nil)) pe_int (nomark _)))))
        (pss_one (ps_ret pe_bl)) pss_nil)
      (pss_cons (ps_for PassesOwn.never rfl (pi_tup (pv 0)) (pg_name (i := 1) scDue.nd rfl (.inl rfl))
        (pss_one (ps_if (PW.pt (pw_or (pt_not (pt_val (pe_callB call_isi (by rfl) mi (by decide +kernel) (pa_cons (pv 1) (pa_cons (pe_bltn (v := .ty "int") (by rfl) mint (by decide +kernel) rfl) pa_nil)))))
            (pw_or (pt_val (pe_callB call_isi (by rfl) mi (by decide +kernel) (pa_cons (pv 1) (pa_cons (pe_bltn (v := .ty "bool") (by rfl) mbool (by decide +kernel) rfl) pa_nil))))
            (pw_or (pt_cmpR op_lt (pv 1) pe_int (nomark _)) (pw_or1 (pt_cmpR op_gt (pv 1) pe_int (nomark _)))))))
          (pss_one (ps_ret pe_bl)) pss_nil)))
      (pss_one (ps_ret pe_bl))), ?_⟩
    rcases hv with ⟨a, xs, rfl, ha, hxs⟩ | hv
    · refine ⟨.ref a, rfl, _, _, _, _, true, rfl, .ty "tuple", .base (.tup ha), kit_ty (by decide +kernel), _, rfl, ?_⟩
      refine iteF ?_
      refine ⟨.ref a, rfl, a, xs, rfl, .inr (SqT.of ha), _, _, rfl, rfl, _, rfl, ite2 (fun e => ?_) (fun e => ?_)⟩
      · have e' := of_decide_eq_true e
        refine q false (.inl ⟨a, xs, rfl, ha, ?_⟩)
        rw [decide_eq_false (by omega), Bool.false_and]
      · have e' : ¬ ((60 : Int) < (xs.length : Int)) := fun z => e (decide_eq_true z)
        have e60 : decide (xs.length ≤ 60) = true := decide_eq_true (by omega)
        refine ⟨.ref a, rfl, a, rfl, ⟨_, SqT.of ha⟩, for_tup (K := K) (xs := xs) (fun i σ H1 => ∃ y, σ = [some (.ref a), y] ∧ H1 = H ∧ ∀ j x, j < i → xs[j]? = some x → okItem x = true) ⟨_, rfl, rfl, fun j x hj => absurd hj (Nat.not_lt_zero _)⟩ (fun i σ H1 _ h => ?_) (fun i x σ H1 hx h => ?_) (fun σ H1 h => ?_)⟩
        · obtain ⟨y, rfl, rfl, _⟩ := h
          exact SqT.of ha
        · obtain ⟨y, rfl, rfl, hj⟩ := h
          obtain ⟨t, bi, bb, h1, h2, h3, h4⟩ := item_ty (K := K) (hxs x (List.mem_of_getElem? hx))
          have out : okItem x = false → Q (.bl false) H1 := fun e0 => q false (.inl ⟨a, xs, rfl, ha, by rw [all_cut hx e0, Bool.and_false]⟩)
          have no : whole x = false → okItem x = false := fun e0 => by
            cases x <;> first | rfl | cases e0
          refine ⟨x, rfl, _, _, _, _, bi, rfl, .ty "int", h1, kit_ty h2, _, rfl, ?_⟩
          cases bi with
          | false =>
            refine iteT ?_
            exact out (no (by rw [← h4]; rfl))
          | true =>
            refine iteF ?_
            refine ⟨x, rfl, _, _, _, _, bb, rfl, .ty "bool", h1, kit_ty h3, _, rfl, ?_⟩
            cases bb with
            | true =>
              refine iteT ?_
              exact out (no (by rw [← h4]; rfl))
            | false =>
              refine iteF ?_
              obtain ⟨n, rfl⟩ := whole_int (x := x) (by rw [← h4]; rfl)
              refine ⟨.int n, rfl, _, _, rfl, rfl, _, rfl, ite2 (fun e0 => ?_) (fun e0 => ?_)⟩
              · have e1 : n < 0 := of_decide_eq_true e0
                exact out (show (decide (0 ≤ n) && decide (n ≤ 12)) = false by rw [decide_eq_false (by omega), Bool.false_and])
              · have e1 : ¬ n < 0 := fun z => e0 (decide_eq_true z)
                refine ⟨.int n, rfl, _, _, rfl, rfl, _, rfl, ite2 (fun e2 => ?_) (fun e2 => ?_)⟩
                · have e3 : 12 < n := of_decide_eq_true e2
                  exact out (show (decide (0 ≤ n) && decide (n ≤ 12)) = false by rw [decide_eq_false (show ¬ n ≤ 12 by omega), Bool.and_false])
                · have e3 : ¬ 12 < n := fun z => e2 (decide_eq_true z)
                  refine ⟨_, rfl, rfl, fun j x hj' hx' => ?_⟩
                  by_cases hji : j = i
                  · subst hji
                    rw [hx] at hx'
                    cases hx'
                    show (decide (0 ≤ n) && decide (n ≤ 12)) = true
                    rw [decide_eq_true (show 0 ≤ n by omega), decide_eq_true (show n ≤ 12 by omega)]
                    rfl
                  · exact hj j x (by omega) hx'
        · obtain ⟨y, rfl, rfl, hj⟩ := h
          refine q true (.inl ⟨a, xs, rfl, ha, ?_⟩)
          rw [e60, Bool.true_and]
          symm
          rw [List.all_eq_true]
          intro x hx
          obtain ⟨j, hj1, hj2⟩ := List.getElem_of_mem hx
          exact hj j x hj1 (by rw [List.getElem?_eq_getElem hj1, hj2])
    · obtain ⟨t, bi, bb, h1, h2, _⟩ := notup_ty (K := K) hv
      refine ⟨v, rfl, _, _, _, _, false, rfl, .ty "tuple", h1, kit_ty h2, _, rfl, ?_⟩
      refine iteT ?_
      exact q false (.inr ⟨hv, rfl⟩)
end
theorem lg59 : ((10 : Int) ^ (59 : Int).toNat).natAbs.log2 < 9000 := Nat.lt_of_lt_of_le (PySem.Flt.log2_lt_of (by decide : 0 < 200) (by decide +kernel)) (by decide)
theorem at_in {xs : List V} {r : Int} {n : Nat} (hn : xs.length = n) (h0 : 0 ≤ r) (h1 : r < (n : Int)) : ∃ v, v ∈ xs ∧ atI xs r = some v := by
  have h2 : r.toNat < xs.length := by omega
  exact ⟨xs[r.toNat], List.getElem_mem h2, at_of (j := r.toNat) (by omega) (List.getElem?_eq_getElem h2)⟩
theorem odd_items {H : Hp} {t8 t9 : Addr} {r : Int} (h8 : H t8 = some (.tup [.int 3])) (h9 : H t9 = some (.lst [.int 3])) : ∀ x ∈ [V.int 13, .int (-1), .int (13 + r), .int (-1 - r), .bl true, .bl false, .non, .str "3", .ref t8, .ref t9], Item H x := by
  intro x hx
  simp only [List.mem_cons, List.not_mem_nil, or_false] at hx
  rcases hx with rfl | rfl | rfl | rfl | rfl | rfl | rfl | rfl | rfl | rfl
  · exact .inl (.inl ⟨_, rfl⟩)
  · exact .inl (.inl ⟨_, rfl⟩)
  · exact .inl (.inl ⟨_, rfl⟩)
  · exact .inl (.inl ⟨_, rfl⟩)
  · exact .inl (.inr (.inl ⟨_, rfl⟩))
  · exact .inl (.inr (.inl ⟨_, rfl⟩))
  · exact .inl (.inr (.inr (.inl rfl)))
  · exact .inl (.inr (.inr (.inr (.inl ⟨_, rfl⟩))))
  · exact .inr ⟨_, _, rfl, h8⟩
  · exact .inl (.inr (.inr (.inr (.inr ⟨_, _, rfl, h9⟩))))
theorem other_things {H : Hp} {e1 e2 e3 e4 e5 : Addr} (h1 : H e1 = some (.lst [])) (h2 : H e2 = some (.tup [.ref e3])) (h3 : H e3 = some (.tup [])) (h4 : H e4 = some (.tup [.ref e5])) (h5 : H e5 = some (.tup [.int 0])) :
    ∀ x ∈ [V.non, .bl true, .int 0, .int 7, .str "", .str "0", .ref e1, .ref e2, .ref e4, .str "1 2"], Thing H x := by
  intro x hx
  simp only [List.mem_cons, List.not_mem_nil, or_false] at hx
  rcases hx with rfl | rfl | rfl | rfl | rfl | rfl | rfl | rfl | rfl | rfl
  · exact .inr (.inr (.inr (.inl rfl)))
  · exact .inr (.inr (.inl ⟨_, rfl⟩))
  · exact .inr (.inl ⟨_, rfl⟩)
  · exact .inr (.inl ⟨_, rfl⟩)
  · exact .inr (.inr (.inr (.inr (.inl ⟨_, rfl⟩))))
  · exact .inr (.inr (.inr (.inr (.inl ⟨_, rfl⟩))))
  · exact .inr (.inr (.inr (.inr (.inr ⟨_, _, rfl, h1⟩))))
  · refine .inl ⟨_, _, rfl, h2, fun x hx => ?_⟩
    rw [List.mem_singleton.mp hx]
    exact .inr ⟨_, _, rfl, h3⟩
  · refine .inl ⟨_, _, rfl, h4, fun x hx => ?_⟩
    rw [List.mem_singleton.mp hx]
    exact .inr ⟨_, _, rfl, h5⟩
  · exact .inr (.inr (.inr (.inr (.inl ⟨_, rfl⟩))))
theorem ints_items {H : Hp} {ws : List Int} : ∀ x ∈ ws.map V.int, Item H x := fun x hx => by
  obtain ⟨n, _, rfl⟩ := List.mem_map.mp hx
  exact .inl (.inl ⟨n, rfl⟩)
/-- what stood at b stands behind a draw, if b is new against the source -/
theorem Kp.get {p l b : Addr} {o : HO} {H H' : Hp} (k : Kp p l H H') (n : b ≠ p ∧ b ≠ l) (e : H b = some o) : H' b = some o := k b o n.1 n.2 e
section
variable {P : Program} {w : World} {K : PySem.W.Frag} {mg : Str → Option Value} {base : Heap}
def spThing : Sp := fun vs H Q _ => ∃ (p l : Addr), vs = [.ref p] ∧ Sc p l H ∧ ∀ v H', Thing H' v → Sc p l H' → Kp p l H H' → Q v H'
theorem ok_thing {f fN : Addr} {fd fdN : FuncData} {k : Nat} (F : Fun K "_law_thing" "_law_thing" sThing f fd) (FN : Fun K "_law_next" "_law_next" sNext fN fdN) (bN : Binds K fdN ["source", "many"] []) (gN : mg "_law_next" = some (.ref fN)) (mabs : mg "abs" = none) (mt : mg "tuple" = none) (mr : mg "range" = none) : FnOk P w K mg base CX0 (k + 1 + 1) f fd ["source"] spThing := by
  have GN : FnOk P w K mg base CX0 (k + 1) fN fdN ["source", "many"] spNext := ok_next FN mabs
  refine F.ok scThing (fun vs H Q E h => ?_) (fun cdv A outer s H vs Q E hr h => ?_)
  · obtain ⟨p, l, rfl, _⟩ := h
    rfl
  · obtain ⟨p, l, rfl, hS, q⟩ := h
    refine ⟨_, pss_cons (ps_set (i := 1) scThing.nd rfl (.inl rfl) (pe_call GN hr (by rfl) gN FN.kp bN .nil pass0 (pa_cons (pv 0) (pa_cons pe_int pa_nil))))
      (pss_cons (ps_set (i := 2) scThing.nd rfl (.inl rfl) (pe_call GN hr (by rfl) gN FN.kp bN .nil pass0 (pa_cons (pv 0) (pa_cons pe_int pa_nil))))
      (C8.pss_cut (ps_if (pt_cmpR op_eq (pv 1) pe_int (nomark _)) (pss_one (ps_set (i := 2) scThing.nd rfl (.inl rfl) (pe_op op_add pe_int (pe_call GN hr (by rfl) gN FN.kp bN .nil pass0 (pa_cons (pv 0) (pa_cons pe_int pa_nil)))))) pss_nil)
      (pss_cons (ps_setLc (i := 3) (own := [("k", 6)]) (g := gName 6) (tt := tYes) rfl scThing.nd rfl rfl (sw_true rfl rfl rfl (by decide +kernel)) (pi_range1 rfl mr (pa_cons (pv 2) pa_nil)) (blkOk_by (N := ["source", "way", "size", "row", "more", "odd", "k"]) (sc := defScope sThing) (by decide +kernel)) (fun _ _ _ _ _ => pg_name (i := 6) scThing.nd rfl (Or.inl rfl)) (fun _ _ _ _ _ => pts_nil)
        (fun _ _ _ _ _ => pe_call GN hr (by rfl) gN FN.kp bN .nil pass0 (pa_cons (pv 0) (pa_cons pe_int pa_nil))))
      (C8.pss_cut (ps_if (PW.pt (pw_and (pt_chain op_lt op_lt pe_int (pv 1) pe_int) (pw_and1 (pt_cmpR op_gt (pv 2) pe_int (nomark _)))))
          (pss_cons (ps_set (i := 4) scThing.nd rfl (.inl rfl) (pe_call GN hr (by rfl) gN FN.kp bN .nil pass0 (pa_cons (pv 0) (pa_cons (pe_op op_pow pe_int pe_int) pa_nil))))
          (pss_cons (ps_set (i := 5) scThing.nd rfl (.inl rfl) (pe_ix ix_list (pe_lst (pa_cons pe_int (pa_cons (pe_un un_neg pe_int) (pa_cons (pe_op op_add pe_int (pv 4)) (pa_cons (pe_op op_sub (pe_un un_neg pe_int) (pv 4)) (pa_cons pe_bl (pa_cons pe_bl (pa_cons pe_non (pa_cons pe_str (pa_cons (pe_tup (pa_cons pe_int pa_nil)) (pa_cons (pe_lst (pa_cons pe_int pa_nil)) pa_nil)))))))))))
            (pe_call GN hr (by rfl) gN FN.kp bN .nil pass0 (pa_cons (pv 0) (pa_cons pe_int pa_nil))) (fun _ _ => rfl)))
          (pss_one (ps_asg (pv 5) (pg_sub (pv 3) (pe_call GN hr (by rfl) gN FN.kp bN .nil pass0 (pa_cons (pv 0) (pa_cons (pv 2) pa_nil))) set_list)))))
          pss_nil)
      (pss_cons (ps_if (pt_cmpR op_eq (pv 1) pe_int (nomark _)) (pss_one (ps_ret (pv 3))) pss_nil)
      (pss_cons (ps_if (pt_cmpR op_eq (pv 1) pe_int (nomark _)) (pss_one (ps_ret (pe_ix ix_list (pe_lst (pa_cons pe_non (pa_cons pe_bl (pa_cons pe_int (pa_cons pe_int (pa_cons pe_str (pa_cons pe_str (pa_cons (pe_lst pa_nil) (pa_cons (pe_tup (pa_cons (pe_tup pa_nil) pa_nil)) (pa_cons (pe_tup (pa_cons (pe_tup (pa_cons pe_int pa_nil)) pa_nil)) (pa_cons pe_str pa_nil)))))))))))
          (pe_call GN hr (by rfl) gN FN.kp bN .nil pass0 (pa_cons (pv 0) (pa_cons pe_int pa_nil))) (fun _ _ => rfl)))) pss_nil)
      (pss_one (ps_ret (pe_callTy call_tuple_of (by rfl) mt (by decide +kernel) (pa_cons (pv 3) pa_nil)))))))))), ?_⟩
    refine ⟨.ref p, rfl, p, l, 8, rfl, hS, by decide, lg (by decide) (by decide), fun wy H1 a1 b1 S1 k1 => ?_⟩
    refine ⟨.ref p, rfl, p, l, 6, rfl, S1, by decide, lg (by decide) (by decide), fun s0 H2 a2 b2 S2 k2 => ?_⟩
    refine ⟨fun σ' H' => ∃ sz, σ' = [some (.ref p), some (.int wy), some (.int sz), none, none, none, none] ∧ 0 ≤ sz ∧ sz ≤ 62 ∧ Sc p l H' ∧ Kp p l H H', ?_, fun σ' H' hM => ?_⟩
    · refine ⟨.int wy, rfl, rfl, _, rfl, ite2 (fun _ => ?_) (fun _ => ?_)⟩
      · refine ⟨.ref p, rfl, p, l, 5, rfl, S2, by decide, lg (by decide) (by decide), fun r3 H3 a3 b3 S3 k3 => ?_⟩
        exact ⟨58, r3, rfl, rfl, 58 + r3, rfl, by omega, by omega, S3, (k1.trans k2).trans k3⟩
      · exact ⟨s0, rfl, a2, by omega, S2, k1.trans k2⟩
    · obtain ⟨sz, rfl, z0, z1, S5, k5⟩ := hM
      -- row = [..]
      refine ⟨.int sz, rfl, sz, rfl, by omega, by omega, fun D hD => lc_range (lo := 0) (n := sz.toNat) (fun i H6 => ∃ ws : List Int, ws.length = i ∧ H6 D = some (.lst (ws.map V.int)) ∧ Sc p l H6 ∧ Kp p l H H6) ?_ (fun i H6 hi h6 => ?_) (fun H6 h6 => ?_)⟩
      · exact ⟨[], rfl, upd_same, S5.upd hD, k5.upd hD⟩
      · obtain ⟨ws, hw, e6, S6, k6⟩ := h6
        refine ⟨rfl, .ref p, rfl, p, l, 13, rfl, S6, by decide, lg (by decide) (by decide), fun r7 H7 a7 b7 S7 k7 => ?_⟩
        have nD := S5.ne hD
        refine ⟨_, k7.get nD e6, ?_, ws ++ [r7], ?_, ?_, ?_, ?_⟩
        · rw [List.length_map]
          exact small1000 (by omega)
        · rw [List.length_append, hw]
          rfl
        · rw [upd_same, List.map_append]
          rfl
        · obtain ⟨n, ns, x, y, f1, f2, rr⟩ := S7
          refine ⟨n, ns, x, y, ?_, ?_, rr⟩
          · rw [upd_ne nD.1.symm]
            exact f1
          · rw [upd_ne nD.2.symm]
            exact f2
        · intro b o h1 h2 e
          have nb : b ≠ D := fun z => by
            rw [z, k5.free S5 hD] at e
            cases e
          rw [upd_ne nb]
          exact k7 b o h1 h2 (k6 b o h1 h2 e)
      · obtain ⟨ws, hw, e6, S6, k6⟩ := h6
        have nD := S5.ne hD
        have fD := k5.free S5 hD
        refine ⟨fun σ' H' => ∃ y4 y5 xs, σ' = [some (.ref p), some (.int wy), some (.int sz), some (.ref D), y4, y5, none] ∧ H' D = some (.lst xs) ∧ (∀ x ∈ xs, Item H' x) ∧ Sc p l H' ∧ Kp p l H H', ?_, fun σ' H' hM => ?_⟩
        · have stay : ∃ y4 y5 xs, [some (V.ref p), some (V.int wy), some (V.int sz), some (V.ref D), none, none, none] = [some (.ref p), some (.int wy), some (.int sz), some (.ref D), y4, y5, none] ∧ H6 D = some (.lst xs) ∧ (∀ x ∈ xs, Item H6 x) ∧ Sc p l H6 ∧ Kp p l H H6 := ⟨none, none, _, rfl, e6, ints_items, S6, k6⟩
          refine ⟨.int wy, rfl, 0, wy, rfl, rfl, _, rfl, ite2 (fun _ => ?_) (fun c1 => ?_)⟩
          · refine ⟨wy, 4, rfl, rfl, _, rfl, ite2 (fun _ => ?_) (fun _ => ?_)⟩
            · refine ⟨.int sz, rfl, sz, 0, rfl, rfl, _, rfl, ite2 (fun c3 => ?_) (fun _ => ?_)⟩
              · have szp : 0 < sz := of_decide_eq_true c3
                refine ⟨.ref p, rfl, 10, 59, rfl, rfl, ⟨by decide, by decide, by decide⟩, p, l, _, rfl, S6, (show (0 : Int) < 10 ^ (59 : Int).toNat by decide +kernel), lg59, fun mo H7 a7 b7 S7 k7 => ?_⟩
                refine ⟨1, rfl, .int mo, rfl, 13, mo, rfl, rfl, 1, rfl, .int mo, rfl, -1, mo, rfl, rfl, (show 1 ≤ sizeLine by decide), fun t8 h8 => ⟨(show 1 ≤ sizeLine by decide), fun t9 h9 => ⟨(show 10 ≤ sizeLine by decide), fun q0 h0 => ?_⟩⟩⟩
                have n8 := S7.ne h8
                have S8 := S7.upd (o := .tup [.int 3]) h8
                have n9 := S8.ne h9
                have S9 := S8.upd (o := .lst [.int 3]) h9
                have n0 := S9.ne h0
                have S10 := S9.upd (o := .lst [.int 13, .int (-1), .int (13 + mo), .int (-1 - mo), .bl true, .bl false, .non, .str "3", .ref t8, .ref t9]) h0
                refine ⟨.ref p, rfl, p, l, 10, rfl, S10, by decide, lg (by decide) (by decide), fun r2 H11 a11 b11 S11 k11 => ?_⟩
                obtain ⟨v, hv, ev⟩ := at_in (xs := [V.int 13, .int (-1), .int (13 + mo), .int (-1 - mo), .bl true, .bl false, .non, .str "3", .ref t8, .ref t9]) (n := 10) rfl a11 b11
                refine ⟨q0, _, r2, v, rfl, rfl, SqL.of (k11.get n0 upd_same), ev, ?_⟩
                -- row[..] = odd
                refine ⟨v, rfl, .ref D, rfl, .ref p, rfl, .int sz, rfl, p, l, sz, rfl, S11, szp, lg szp (by omega), fun r3 H12 a12 b12 S12 k12 => ?_⟩
                have w8 : H7 D = some (.lst (ws.map V.int)) := k7.get nD e6
                have d8 : t8 ≠ D := (ne_of_none w8 h8).symm
                have w9 := same_upd (o := .tup [.int 3]) h8 _ _ w8
                have d9 : t9 ≠ D := (ne_of_none w9 h9).symm
                have w10 := same_upd (o := .lst [.int 3]) h9 _ _ w9
                have w11 := same_upd (o := .lst [.int 13, .int (-1), .int (13 + mo), .int (-1 - mo), .bl true, .bl false, .non, .str "3", .ref t8, .ref t9]) h0 _ _ w10
                have w12 : H12 D = some (.lst (ws.map V.int)) := k12.get nD (k11.get nD w11)
                have g8 : H12 t8 = some (.tup [.int 3]) := k12.get n8 (k11.get n8 (same_upd h0 _ _ (same_upd h9 _ _ upd_same)))
                have g9 : H12 t9 = some (.lst [.int 3]) := k12.get n9 (k11.get n9 (same_upd h0 _ _ upd_same))
                refine ⟨D, _, r3, r3.toNat, rfl, rfl, w12, ?_, ?_⟩
                · unfold ixN
                  rw [if_pos a12, List.length_map, if_pos (by omega)]
                · refine ⟨_, _, _, rfl, upd_same, fun x hx => ?_, ?_, ?_⟩
                  · rcases List.mem_or_eq_of_mem_set hx with hx | hx
                    · exact ints_items x hx
                    · rw [hx]
                      refine odd_items ?_ ?_ v hv
                      · rw [upd_ne d8]
                        exact g8
                      · rw [upd_ne d9]
                        exact g9
                  · obtain ⟨n, ns, x, y, f1, f2, rr⟩ := S12
                    refine ⟨n, ns, x, y, ?_, ?_, rr⟩
                    · rw [upd_ne nD.1.symm]
                      exact f1
                    · rw [upd_ne nD.2.symm]
                      exact f2
                  · have kk : Kp p l H H12 := (((k6.trans k7).trans ((((Kp.refl H7).upd h8).upd h9).upd h0)).trans k11).trans k12
                    intro b o h1 h2 e
                    have nb : b ≠ D := fun z => by
                      rw [z, fD] at e
                      cases e
                    rw [upd_ne nb]
                    exact kk b o h1 h2 e
              · exact stay
            · exact iteF stay
          · exact ⟨_, rfl, iteF (iteF stay)⟩
        · obtain ⟨y4, y5, xs, rfl, eD, hxs, S7, k7⟩ := hM
          refine ⟨.int wy, rfl, rfl, _, rfl, ite2 (fun _ => ?_) (fun _ => ?_)⟩
          · exact ⟨.ref D, rfl, q _ _ (.inr (.inr (.inr (.inr (.inr ⟨D, xs, rfl, eD⟩))))) S7 k7⟩
          · refine ⟨.int wy, rfl, rfl, _, rfl, ite2 (fun _ => ?_) (fun _ => ?_)⟩
            · refine ⟨Nat.zero_le _, fun e1 h1 => ⟨Nat.zero_le _, fun e3 h3 => ⟨(show 1 ≤ sizeLine by decide), fun e2 h2 => ⟨(show 1 ≤ sizeLine by decide), fun e5 h5 => ⟨(show 1 ≤ sizeLine by decide), fun e4 h4 => ⟨(show 10 ≤ sizeLine by decide), fun q0 h0 => ?_⟩⟩⟩⟩⟩⟩
              have T1 := S7.upd (o := .lst []) h1
              have T3 := T1.upd (o := .tup []) h3
              have T2 := T3.upd (o := .tup [.ref e3]) h2
              have T5 := T2.upd (o := .tup [.int 0]) h5
              have T4 := T5.upd (o := .tup [.ref e5]) h4
              have T0 := T4.upd (o := .lst [.non, .bl true, .int 0, .int 7, .str "", .str "0", .ref e1, .ref e2, .ref e4, .str "1 2"]) h0
              refine ⟨.ref p, rfl, p, l, 10, rfl, T0, by decide, lg (by decide) (by decide), fun r2 H11 a11 b11 S11 k11 => ?_⟩
              obtain ⟨v, hv, ev⟩ := at_in (xs := [V.non, .bl true, .int 0, .int 7, .str "", .str "0", .ref e1, .ref e2, .ref e4, .str "1 2"]) (n := 10) rfl a11 b11
              refine ⟨q0, _, r2, v, rfl, rfl, SqL.of (k11.get (T4.ne h0) upd_same), ev, ?_⟩
              refine q v H11 (other_things (e1 := e1) (e2 := e2) (e3 := e3) (e4 := e4) (e5 := e5) ?_ ?_ ?_ ?_ ?_ v hv) S11 ((k7.trans ((((((Kp.refl _).upd h1).upd h3).upd h2).upd h5).upd h4)).trans ((Kp.refl _).upd h0 |>.trans k11))
              · exact k11.get (S7.ne h1) (same_upd h0 _ _ (same_upd h4 _ _ (same_upd h5 _ _ (same_upd h2 _ _ (same_upd h3 _ _ upd_same)))))
              · exact k11.get (T3.ne h2) (same_upd h0 _ _ (same_upd h4 _ _ (same_upd h5 _ _ upd_same)))
              · exact k11.get (T1.ne h3) (same_upd h0 _ _ (same_upd h4 _ _ (same_upd h5 _ _ (same_upd h2 _ _ upd_same))))
              · exact k11.get (T5.ne h4) (same_upd h0 _ _ upd_same)
              · exact k11.get (T2.ne h5) (same_upd h0 _ _ (same_upd h4 _ _ upd_same))
            · refine ⟨.ref D, rfl, D, _, rfl, .inl ⟨SqL.of eD, fun t ht => ?_⟩⟩
              refine q _ _ (.inl ⟨t, xs, rfl, upd_same, fun x hx => (hxs x hx).keep fun a o _ e => same_upd ht _ _ e⟩) (S7.upd ht) (k7.upd ht)
end
theorem crb_fn {H : Hp} {v : V} {b c : Bool} (h : CrB H v b) (h' : CrB H v c) : b = c := by
  rcases h with ⟨a, xs, rfl, e, rfl⟩ | ⟨n, rfl⟩
  · rcases h' with ⟨a', ys, e1, e2, rfl⟩ | ⟨n, _⟩
    · cases e1
      rw [e] at e2
      cases e2
      rfl
    · rcases n with ⟨i, z⟩ | ⟨i, z⟩ | z | ⟨i, z⟩ | ⟨a', ys, z, e2⟩ <;> cases z
      rw [e] at e2
      cases e2
  · rcases h' with ⟨a', ys, rfl, e2, _⟩ | ⟨_, rfl⟩
    · rcases n with ⟨i, z⟩ | ⟨i, z⟩ | z | ⟨i, z⟩ | ⟨a', ys, z, e3⟩ <;> cases z
      rw [e2] at e3
      cases e3
    · rfl
theorem tab_ne {H : Hp} {p l P : Addr} (S : Sc p l H) (G : GxR.TabG H P) : P ≠ p ∧ P ≠ l := by
  obtain ⟨ps, h, _⟩ := G
  obtain ⟨n, ns, a, b, e1, e2, _⟩ := S
  exact ⟨ne_of h e1 (fun z => by cases z), ne_of h e2 (fun z => by cases z)⟩
theorem TabG_kp {H H' : Hp} {p l P : Addr} (S : Sc p l H) (G : GxR.TabG H P) (k : Kp p l H H') : GxR.TabG H' P := by
  have n := tab_ne S G
  obtain ⟨ps, h, t⟩ := G
  exact ⟨ps, k.get n h, t⟩
theorem Sc_tab {H H' : Hp} {p l P : Addr} (S : Sc p l H) (G : GxR.TabG H P) (k : GxR.Tabbed P H H') : Sc p l H' := by
  have n := tab_ne S G
  obtain ⟨n', ns, a, b, e1, e2, r⟩ := S
  refine ⟨n', ns, a, b, ?_, ?_, r⟩
  · rw [k.2 p n.1.symm]
    exact e1
  · rw [k.2 l n.2.symm]
    exact e2
section
variable {P : Program} {w : World} {K : PySem.W.Frag} {mg : Str → Option Value} {base : Heap}
def spLaw (K : PySem.W.Frag) (Pt : Addr) : Sp := fun vs H Q _ => ∃ (a : Addr) (ns : List Int), vs = [.ref a] ∧ SqL K H a (ns.map V.int) ∧ H Pt = some (.tbl #[]) ∧ ∀ H', Q (.bl true) H'
theorem ok_law {f fS fN fG fD fW fT fC c Pt : Addr} {fd fdS fdN fdG fdD fdW fdT : FuncData} {oc kV doc pm ct : Value} {od an : Option Addr} {osl : Array (Option Value)} {tw tt : Tok} (F : Fun K "law" "law" sLaw f fd)
    (FS : Fun K "_law_source" "_law_source" sSource fS fdS) (bS : Binds K fdS ["script"] []) (gS : mg "_law_source" = some (.ref fS))
    (FN : Fun K "_law_next" "_law_next" sNext fN fdN) (bN : Binds K fdN ["source", "many"] []) (gN : mg "_law_next" = some (.ref fN))
    (FG : Fun K "_law_thing" "_law_thing" sThing fG fdG) (bG : Binds K fdG ["source"] []) (gG : mg "_law_thing" = some (.ref fG))
    (FD : Fun K "_law_due" "_law_due" sDue fD fdD) (bD : Binds K fdD ["thing"] []) (gD : mg "_law_due" = some (.ref fD))
    (FW : Fun K "is_whole" "is_whole" sWhole fW fdW) (bW : Binds K fdW ["thing"] []) (gW : mg "is_whole" = some (.ref fW))
    (FT : Fun K "is_tray" "is_tray" sTray fT fdT) (bT : Binds K fdT ["thing"] []) (gT : mg "is_tray" = some (.ref fT))
    (lkC : K.lookup fC = some ⟨oc, od, .func (PySem.W.fnOf "is_crate" "is_crate" (defArgs sIsCrate) (defBody sIsCrate) (defScope sIsCrate) .none kV doc pm an (.ref c) ct), osl⟩) (hcdC : PySem.W.codeIn K (.ref c) "is_crate" = true) (kpC : PySem.W.keepIn K (.ref fC) = true)
    (bC : Binds K (PySem.W.fnOf "is_crate" "is_crate" (defArgs sIsCrate) (defBody sIsCrate) (defScope sIsCrate) .none kV doc pm an (.ref c) ct) ["thing"] []) (gC : mg "is_crate" = some (.ref fC)) (TBC : GxR.TabB base mg c Pt)
    (gM : mg "MOST_WELLS" = some (.int 12 tw)) (gMT : mg "MOST_TRAYS" = some (.int 60 tt))
    (mabs : mg "abs" = none) (ml : mg "list" = none) (mt : mg "tuple" = none) (mr : mg "range" = none) (mi : mg "isinstance" = none) (mint : mg "int" = none) (mbool : mg "bool" = none) (mlen : mg "len" = none) (mall : mg "all" = none) :
    FnOk P w K mg base CX0 4 f fd ["script"] (spLaw K Pt) := by
  have GS : FnOk P w K mg base CX0 1 fS fdS ["script"] (spSource K) := ok_source FS ml
  have GG : FnOk P w K mg base CX0 2 fG fdG ["source"] spThing := ok_thing FG FN bN gN mabs mt mr
  have GD : FnOk P w K mg base CX0 1 fD fdD ["thing"] spDue := ok_due FD mi mint mbool mt mlen
  have GC := ok_iscrate (P := P) (w := w) (k := 0) lkC hcdC TBC FW bW gW FT bT gT gM gMT mi mint mbool mt mlen mall
  refine F.ok scLaw (fun vs H Q E h => ?_) (fun cdv A outer s H vs Q E hr h => ?_)
  · obtain ⟨a, ns, rfl, _⟩ := h
    rfl
  · obtain ⟨a, ns, rfl, hS, hP, q⟩ := h
    have hr1 : Room 1 _ := hr.mono (by decide)
    have hr2 : Room 2 _ := hr.mono (by decide)
    refine ⟨_, pss_cons (ps_set (i := 1) scLaw.nd rfl (.inl rfl) (pe_call GS hr1 (by rfl) gS FS.kp bS .nil pass0 (pa_cons (pv 0) pa_nil)))
      (pss_cons (ps_for PassesOwn.never rfl (pi_range1 rfl mr (pa_cons pe_int pa_nil)) (pg_name (i := 2) scLaw.nd rfl (.inl rfl))
        (pss_cons (ps_set (i := 3) scLaw.nd rfl (.inl rfl) (pe_call GG hr2 (by rfl) gG FG.kp bG .nil pass0 (pa_cons (pv 1) pa_nil)))
        (pss_cons (ps_set (i := 4) scLaw.nd rfl (.inl rfl) (pe_call GD hr1 (by rfl) gD FD.kp bD .nil pass0 (pa_cons (pv 3) pa_nil)))
        (pss_cons (ps_set (i := 5) scLaw.nd rfl (.inl rfl) (pe_call GC hr (by rfl) gC kpC bC .nil pass0 (pa_cons (pv 3) pa_nil)))
        (pss_one (ps_if (PW.pt (pw_or (pt_not (pt_val (pe_callB call_isi (by rfl) mi (by decide +kernel) (pa_cons (pv 5) (pa_cons (pe_bltn (v := .ty "bool") (by rfl) mbool (by decide +kernel) rfl) pa_nil)))))
            (pw_or1 (pt_cmpR op_ne (pv 5) (pv 4) (nomark _)))))
          (pss_one (ps_ret pe_bl)) pss_nil))))))
      (pss_one (ps_ret pe_bl))), ?_⟩
    refine ⟨.ref a, rfl, a, ns, rfl, hS, fun p l H1 s1 np nl S1 => ?_⟩
    have G1 : GxR.TabG H1 Pt := ⟨#[], s1 _ _ hP, True.intro⟩
    refine ⟨8, rfl, by decide, by decide, for_range (lo := 0) (n := 8) (fun i σ H2 => ∃ s2 s3 s4 s5, σ = [some (.ref a), some (.ref p), s2, s3, s4, s5] ∧ Sc p l H2 ∧ GxR.TabG H2 Pt) ⟨_, _, _, _, rfl, S1, G1⟩ (fun i σ H2 hi h => ?_) (fun σ H2 h => ?_)⟩
    · obtain ⟨s2, s3, s4, s5, rfl, S2, G2⟩ := h
      refine ⟨.ref p, rfl, p, l, rfl, S2, fun v H3 hv S3 k3 => ?_⟩
      have G3 := TabG_kp S2 G2 k3
      refine ⟨v, rfl, v, rfl, hv, fun b hb => ?_⟩
      refine ⟨v, rfl, v, rfl, hv, G3, fun b2 H4 hb2 hT => ?_⟩
      have e : b2 = b := crb_fn hb2 hb
      subst e
      refine ⟨.bl b2, rfl, _, _, _, _, true, rfl, .ty "bool", .base (.bl _), kit_ty (by decide +kernel), _, rfl, ?_⟩
      refine iteF ?_
      refine ⟨.bl b2, rfl, .bl b2, rfl, rfl, _, rfl, ?_⟩
      refine iteNS rfl ?_
      exact ⟨_, _, _, _, rfl, Sc_tab S3 G3 hT, hT.1⟩
    · exact q _
end
theorem all_mk {l : PySem.W.OpenLaw} {q : Program} {w : World} {K : PySem.W.Frag} {h : Heap} {mg : Str → Option Value} {fa f1 f2 f3 f4 f5 f6 f7 f8 cc3 pt3 : Addr} (X : K.In h) (G : h.Ns mainGlobals mg) (hfa : mg "law" = some (.ref fa)) (T : TabsOf q mg h)
    {od1 an1 od2 an2 od3 an3 od4 an4 od5 an5 od6 an6 od7 an7 od8 an8 td3 : Option Addr} {sl1 sl2 sl3 sl4 sl5 sl6 sl7 sl8 ts3 : Array (Option Value)} {oc1 kV1 dc1 pm1 cd1 ct1 oc2 kV2 dc2 pm2 cd2 ct2 oc3 kV3 dc3 pm3 ct3 oc4 kV4 dc4 pm4 cd4 ct4 oc5 kV5 dc5 pm5 cd5 ct5 oc6 kV6 dc6 pm6 cd6 ct6 oc7 kV7 dc7 pm7 cd7 ct7 oc8 kV8 dc8 pm8 cd8 ct8 te3 : Value} {tv3 : Array Value} {tw tt : Tok}
    (a1 : PySem.W.nsIn K mainGlobals "is_whole" = some (some (.ref f1))) (l1 : K.lookup f1 = some ⟨oc1, od1, .func (PySem.W.fnOf "is_whole" "is_whole" (defArgs sWhole) (defBody sWhole) (defScope sWhole) .none kV1 dc1 pm1 an1 cd1 ct1), sl1⟩) (c1 : PySem.W.codeIn K cd1 "is_whole" = true) (k1 : PySem.W.keepIn K (.ref f1) = true)
    (a2 : PySem.W.nsIn K mainGlobals "is_tray" = some (some (.ref f2))) (l2 : K.lookup f2 = some ⟨oc2, od2, .func (PySem.W.fnOf "is_tray" "is_tray" (defArgs sTray) (defBody sTray) (defScope sTray) .none kV2 dc2 pm2 an2 cd2 ct2), sl2⟩) (c2 : PySem.W.codeIn K cd2 "is_tray" = true) (k2 : PySem.W.keepIn K (.ref f2) = true)
    (a3 : PySem.W.nsIn K mainGlobals "is_crate" = some (some (.ref f3))) (l3 : K.lookup f3 = some ⟨oc3, od3, .func (PySem.W.fnOf "is_crate" "is_crate" (defArgs sIsCrate) (defBody sIsCrate) (defScope sIsCrate) .none kV3 dc3 pm3 an3 (.ref cc3) ct3), sl3⟩) (c3 : PySem.W.codeIn K (.ref cc3) "is_crate" = true) (k3 : PySem.W.keepIn K (.ref f3) = true)
    (a4 : PySem.W.nsIn K mainGlobals "_law_source" = some (some (.ref f4))) (l4 : K.lookup f4 = some ⟨oc4, od4, .func (PySem.W.fnOf "_law_source" "_law_source" (defArgs sSource) (defBody sSource) (defScope sSource) .none kV4 dc4 pm4 an4 cd4 ct4), sl4⟩) (c4 : PySem.W.codeIn K cd4 "_law_source" = true) (k4 : PySem.W.keepIn K (.ref f4) = true)
    (a5 : PySem.W.nsIn K mainGlobals "_law_next" = some (some (.ref f5))) (l5 : K.lookup f5 = some ⟨oc5, od5, .func (PySem.W.fnOf "_law_next" "_law_next" (defArgs sNext) (defBody sNext) (defScope sNext) .none kV5 dc5 pm5 an5 cd5 ct5), sl5⟩) (c5 : PySem.W.codeIn K cd5 "_law_next" = true) (k5 : PySem.W.keepIn K (.ref f5) = true)
    (a6 : PySem.W.nsIn K mainGlobals "_law_thing" = some (some (.ref f6))) (l6 : K.lookup f6 = some ⟨oc6, od6, .func (PySem.W.fnOf "_law_thing" "_law_thing" (defArgs sThing) (defBody sThing) (defScope sThing) .none kV6 dc6 pm6 an6 cd6 ct6), sl6⟩) (c6 : PySem.W.codeIn K cd6 "_law_thing" = true) (k6 : PySem.W.keepIn K (.ref f6) = true)
    (a7 : PySem.W.nsIn K mainGlobals "_law_due" = some (some (.ref f7))) (l7 : K.lookup f7 = some ⟨oc7, od7, .func (PySem.W.fnOf "_law_due" "_law_due" (defArgs sDue) (defBody sDue) (defScope sDue) .none kV7 dc7 pm7 an7 cd7 ct7), sl7⟩) (c7 : PySem.W.codeIn K cd7 "_law_due" = true) (k7 : PySem.W.keepIn K (.ref f7) = true)
    (a8 : PySem.W.nsIn K mainGlobals "law" = some (some (.ref f8))) (l8 : K.lookup f8 = some ⟨oc8, od8, .func (PySem.W.fnOf "law" "law" (defArgs sLaw) (defBody sLaw) (defScope sLaw) .none kV8 dc8 pm8 an8 cd8 ct8), sl8⟩) (c8 : PySem.W.codeIn K cd8 "law" = true) (k8 : PySem.W.keepIn K (.ref f8) = true)
    (p3 : K.lookup cc3 = some ⟨te3, td3, .fields tv3, ts3⟩) (r3 : tv3[11]? = some (.ref pt3)) (n3 : K.lookup pt3 = none) (m3 : ((recsOf q).any fun e => e.name == ("is_crate" : Str)) = true)
    (w1 : PySem.W.nsIn K mainGlobals "MOST_WELLS" = some (some (.int 12 tw)))
    (w2 : PySem.W.nsIn K mainGlobals "MOST_TRAYS" = some (some (.int 60 tt)))
    (z1 : PySem.W.nsIn K mainGlobals "abs" = some none)
    (z2 : PySem.W.nsIn K mainGlobals "list" = some none)
    (z3 : PySem.W.nsIn K mainGlobals "tuple" = some none)
    (z4 : PySem.W.nsIn K mainGlobals "range" = some none)
    (z5 : PySem.W.nsIn K mainGlobals "isinstance" = some none)
    (z6 : PySem.W.nsIn K mainGlobals "int" = some none)
    (z7 : PySem.W.nsIn K mainGlobals "bool" = some none)
    (z8 : PySem.W.nsIn K mainGlobals "len" = some none)
    (z9 : PySem.W.nsIn K mainGlobals "all" = some none)
    : LamX.LawAtS l w K CX0 4 63 "script" mg fa h := by
  have e := hfa.symm.trans (PySem.W.mg_of X G a8)
  cases e
  have F1 := fun_mk (st := sWhole) l1 c1 k1
  have F2 := fun_mk (st := sTray) l2 c2 k2
  have F3 := fun_mk (st := sIsCrate) l3 c3 k3
  have F4 := fun_mk (st := sSource) l4 c4 k4
  have F5 := fun_mk (st := sNext) l5 c5 k5
  have F6 := fun_mk (st := sThing) l6 c6 k6
  have F7 := fun_mk (st := sDue) l7 c7 k7
  have F8 := fun_mk (st := sLaw) l8 c8 k8
  have b1 := F1.binds (ps := ["thing"]) fun _ _ _ _ _ _ us hl => match us, hl with | [_], _ => rfl
  have b2 := F2.binds (ps := ["thing"]) fun _ _ _ _ _ _ us hl => match us, hl with | [_], _ => rfl
  have b3 := F3.binds (ps := ["thing"]) fun _ _ _ _ _ _ us hl => match us, hl with | [_], _ => rfl
  have b4 := F4.binds (ps := ["script"]) fun _ _ _ _ _ _ us hl => match us, hl with | [_], _ => rfl
  have b5 := F5.binds (ps := ["source", "many"]) fun _ _ _ _ _ _ us hl => match us, hl with | [_, _], _ => rfl
  have b6 := F6.binds (ps := ["source"]) fun _ _ _ _ _ _ us hl => match us, hl with | [_], _ => rfl
  have b7 := F7.binds (ps := ["thing"]) fun _ _ _ _ _ _ us hl => match us, hl with | [_], _ => rfl
  have t3 := tab_of X T m3 (PySem.W.mg_of X G a3) l3 p3 r3
  refine ⟨PySem.W.fnOf "law" "law" (defArgs sLaw) (defBody sLaw) (defScope sLaw) .none kV8 dc8 pm8 an8 cd8 ct8, [(cc3, pt3)], spLaw K pt3, ?_, ?_, ?_, fun s v => .of_eq rfl, fun H a ns hl hb hT hS => ?_, fun base hK hN hT => ?_⟩
  · intro p hp
    rw [List.mem_singleton.mp hp]
    exact t3.1
  · intro p hp
    rw [List.mem_singleton.mp hp]
    exact n3
  · intro p hp
    rw [List.mem_singleton.mp hp]
    exact t3.2
  · exact ⟨a, ns, rfl, hS, hT (cc3, pt3) (by simp), fun _ => rfl⟩
  · have u3 := hT (cc3, pt3) (by simp)
    have tb3 : GxR.TabB base mg cc3 pt3 := ⟨u3.code, u3.bm, u3.gP⟩
    exact ok_law (F := F8) (FW := F1) (bW := b1) (gW := PySem.W.mg_of X G a1) (FT := F2) (bT := b2) (gT := PySem.W.mg_of X G a2) (lkC := l3) (hcdC := c3) (kpC := k3) (bC := b3) (gC := PySem.W.mg_of X G a3) (TBC := tb3) (FS := F4) (bS := b4) (gS := PySem.W.mg_of X G a4) (FN := F5) (bN := b5) (gN := PySem.W.mg_of X G a5) (FG := F6) (bG := b6) (gG := PySem.W.mg_of X G a6) (FD := F7) (bD := b7) (gD := PySem.W.mg_of X G a7) (gM := PySem.W.mg_of X G w1) (gMT := PySem.W.mg_of X G w2) (mabs := PySem.W.mg_none_of X G z1) (ml := PySem.W.mg_none_of X G z2) (mt := PySem.W.mg_none_of X G z3) (mr := PySem.W.mg_none_of X G z4) (mi := PySem.W.mg_none_of X G z5) (mint := PySem.W.mg_none_of X G z6) (mbool := PySem.W.mg_none_of X G z7) (mlen := PySem.W.mg_none_of X G z8) (mall := PySem.W.mg_none_of X G z9)
end Tm
open PySem PySem.W PyProof.Rows
set_option maxHeartbeats 0 in
theorem PySem.Challenge.cw_traymap_k01_what_is_a_crate_holds : PySem.Challenge.rw_traymap_k01_what_is_a_crate.Holds := by
  w_on; o_law; k_head; (case hw => w_witness2)
  k_fill
  refine Tm.walk_tab (l := PySem.Challenge.rw_traymap_k01_what_is_a_crate) (n := 63) (k := 4) (x := "script") rfl (by decide) rfl ⟨rfl, by decide, by decide⟩ (fun w h Y => PySem.W.kIn_of Y) ?F
  case F =>
    intro w mg fa h KX G hmg T
    refine' Tm.all_mk KX G hmg T ?a1 ?l1 ?c1 ?k1 ?a2 ?l2 ?c2 ?k2 ?a3 ?l3 ?c3 ?k3 ?a4 ?l4 ?c4 ?k4 ?a5 ?l5 ?c5 ?k5 ?a6 ?l6 ?c6 ?k6 ?a7 ?l7 ?c7 ?k7 ?a8 ?l8 ?c8 ?k8 ?p3 ?r3 ?n3 ?m3 ?w1 ?w2 ?z1 ?z2 ?z3 ?z4 ?z5 ?z6 ?z7 ?z8 ?z9
    (case a1 => k_is); (case l1 => k_is); (case c1 => k_is); (case k1 => k_is); (case a2 => k_is); (case l2 => k_is); (case c2 => k_is); (case k2 => k_is); (case a3 => k_is); (case l3 => k_is); (case c3 => k_is); (case k3 => k_is); (case a4 => k_is); (case l4 => k_is); (case c4 => k_is); (case k4 => k_is); (case a5 => k_is); (case l5 => k_is); (case c5 => k_is); (case k5 => k_is); (case a6 => k_is); (case l6 => k_is); (case c6 => k_is); (case k6 => k_is); (case a7 => k_is); (case l7 => k_is); (case c7 => k_is); (case k7 => k_is); (case a8 => k_is); (case l8 => k_is); (case c8 => k_is); (case k8 => k_is); (case p3 => k_is); (case r3 => first | rfl | kernel_rfl | decide +kernel | k_is); (case n3 => first | rfl | kernel_rfl | decide +kernel | k_is); (case m3 => first | rfl | kernel_rfl | decide +kernel | k_is); (case w1 => k_is); (case w2 => k_is); (case z1 => k_is); (case z2 => k_is); (case z3 => k_is); (case z4 => k_is); (case z5 => k_is); (case z6 => k_is); (case z7 => k_is); (case z8 => k_is); (case z9 => k_is)
